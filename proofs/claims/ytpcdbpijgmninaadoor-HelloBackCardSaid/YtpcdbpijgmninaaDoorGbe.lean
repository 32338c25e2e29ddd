/- Package hello, as landed: what is read (tools/mkhetake.py writes it). -/
import Derived.Test.YtpcdbpijgmninaaDoorGbc
import Derived.Test.YtpcdbpijgmninaaDoorGbd
import Derived.Test.YtpcdbpijgmninaaDoorGv
namespace Go.Proofs.YtpcdbpijgmninaaDoor
set_option maxRecDepth 100000
open Go.RowKit

set_option maxRecDepth 100000 in
set_option maxHeartbeats 1000000 in
theorem heKindOf_any (v : Value) (b : List UInt8) (w : World) (h : BytesAt w v b) :
    Calls Tryd.prog 30 #[v] w fun e w' => e = .returned (.int .i64 (kindB b)) ∧ Below w.heap.size w w' := by
  cases b with
  | nil =>
    obtain ⟨A, cap, rfl, -, -⟩ := h
    go_enter Tryd.func30, Tryd.ntmps30
    go_wp2
    go_ret
    exact ⟨rfl, Below.refl _ _⟩
  | cons c r =>
    have h0 := h
    obtain ⟨A, cap, rfl, -, -⟩ := h
    obtain ⟨g, off, rfl, -, hc⟩ := h0.spots (by simp)
    have c0 := hc 0 c rfl
    have HK : Hid (kindB (c :: r) = if 1 ≤ c.toNat ∧ c.toNat ≤ 4 then (c.toNat : Int) else 0) := Lib.hid rfl
    obtain ⟨z, hz⟩ : ∃ z, z = c.toNat := ⟨_, rfl⟩
    obtain ⟨K, hK⟩ : ∃ K, K = kindB (c :: r) := ⟨_, rfl⟩
    have hz8 : z < 256 := by rw [hz]; exact c.toNat_lt
    rw [← hz] at c0 HK
    rw [← hK] at HK ⊢
    simp at c0
    have L0 : ((r.length : Int) + 1 == 0) = false := by rw [beq_eq_false_iff_ne]; omega
    have L1 : decide ((r.length : Int) + 1 = 0) = false := by simp; omega
    have ew : IntKind.i64.wrap (z : Int) = (z : Int) := IntWalk.i64_in _ (by omega)
    clear h0 hc hz hK
    by_cases h1 : z < 1
    · have d1 : decide ((z : Int) < 1) = true := by simp; omega
      have HF : Hid (K = 0) := Lib.hid (by rw [HK.out, if_neg (by omega)])
      clear h1 HK
      go_enter Tryd.func30, Tryd.ntmps30
      go_wp2
      go_ret
      exact ⟨by rw [HF.out]; rfl, Below.refl _ _⟩
    · have d1 : decide ((z : Int) < 1) = false := by simp; omega
      by_cases h4 : 4 < z
      · have d4 : decide ((4 : Int) < (z : Int)) = true := by simp; omega
        have HF : Hid (K = 0) := Lib.hid (by rw [HK.out, if_neg (by omega)])
        clear h1 h4 HK
        go_enter Tryd.func30, Tryd.ntmps30
        go_wp2
        go_ret
        exact ⟨by rw [HF.out]; rfl, Below.refl _ _⟩
      · have d4 : decide ((4 : Int) < (z : Int)) = false := by simp; omega
        have HF : Hid (K = (z : Int)) := Lib.hid (by rw [HK.out, if_pos (by omega)])
        clear h1 h4 HK
        go_enter Tryd.func30, Tryd.ntmps30
        go_wp2
        go_ret
        exact ⟨by rw [HF.out]; rfl, Below.refl _ _⟩

set_option maxRecDepth 100000 in
set_option maxHeartbeats 1000000 in
theorem heBehind_any (A : Option Addr) (n cap : Nat) (b : List UInt8) (w : World) (h : BytesAt w (.slice A n cap) b) (hn : 1 ≤ n) :
    Calls Tryd.prog 50 #[.slice A n cap] w fun e w' => e = .returned (.pointer (some ⟨w.heap.size, 0, none⟩)) ∧ RdS w' w.heap.size ⟨b.drop 1, 0⟩ ∧ Below w.heap.size w w' := by
  have hc := h.size.2
  have H1 := Lib.hid (h.from 1 hn)
  have C := pkOpen _ _ _ (b.drop 1) w H1.out
  clear h
  by_cases hcap : cap = 1
  · subst hcap
    obtain rfl : n = 1 := by omega
    rw [if_pos rfl] at C
    have C := Lib.hid C
    clear H1
    go_enter Tryd.func50, Tryd.ntmps50
    go_wp2_with fail
    refine C.out.mono ?_
    rintro e w1 ⟨rfl, hr, hb⟩
    have R1 := Lib.hid hr
    have B1 := Lib.hid hb
    clear hr hb C
    go_wp2
    go_ret
    exact ⟨rfl, R1.out, B1.out⟩
  · rw [if_neg hcap] at C
    have C := Lib.hid C
    clear H1
    go_enter Tryd.func50, Tryd.ntmps50
    go_wp2_with fail
    refine C.out.mono ?_
    rintro e w1 ⟨rfl, hr, hb⟩
    have R1 := Lib.hid hr
    have B1 := Lib.hid hb
    clear hr hb C
    go_wp2
    go_ret
    exact ⟨rfl, R1.out, B1.out⟩

/-- While a packet is read: r is the result, g the reader. -/
structure RdX (w0 : World) (r g : Nat) (T : TypeId) (cs : Array Value) (w : World) (s : RS) : Prop where
  res : Whole w r T cs
  rd : RdS w g s
  low : Below w0.heap.size w0 w
  rg : r < g
  r0 : w0.heap.size ≤ r
section
variable {w0 : World} {r g x : Nat} {T : TypeId} {cs : Array Value} {w w' : World} {s s' : RS}
theorem RdX.call (H : RdX w0 r g T cs w s) (hr : RdS w' g s') (hg : w.grownBy w' (some g)) : RdX w0 r g T cs w' s' where
  res := Whole.grown H.res hg (fun k => by injection k with k; have := H.rg; omega)
  rd := hr
  low := H.low.grown hg H.low.size (fun k hk => by injection hk with hk; have := H.rg; have := H.r0; omega)
  rg := H.rg
  r0 := H.r0
theorem RdX.under (H : RdX w0 r g T cs w s) (hb : Below w.heap.size w w') : RdX w0 r g T cs w' s where
  res := Whole.below H.res hb (Whole.lt H.res)
  rd := H.rd.belowR hb
  low := H.low.trans (hb.mono H.low.size)
  rg := H.rg
  r0 := H.r0
theorem RdX.apart (H : RdX w0 r g T cs w s) (hg : w.grownBy w' (some x)) (hx : g < x) : RdX w0 r g T cs w' s where
  res := Whole.grown H.res hg (fun k => by injection k with k; have := H.rg; omega)
  rd := H.rd.apart hg (by omega)
  low := H.low.grown hg H.low.size (fun k hk => by injection hk with hk; have := H.rg; have := H.r0; omega)
  rg := H.rg
  r0 := H.r0
end
theorem Keeps.grown {g : Nat} {w w' : World} (k : Keeps (fun i => i = g) w w') : w.grownBy w' (some g) :=
  ⟨k.os, k.tape, k.output, k.size, fun i hi hn => k.block i hi (fun e => hn (by rw [e]))⟩

set_option maxRecDepth 100000 in
set_option maxHeartbeats 1000000 in
theorem heTakeEntry_any (g : Nat) (s : RS) (w : World) (h : RdS w g s) :
    Calls Tryd.prog 53 #[.pointer (some ⟨g, 0, none⟩)] w fun e w' => e = .returned (readE (textO s 128)).val ∧ RdS w' g (textS s 128) ∧ w.grownBy w' (some g) := by
  have H := Lib.hid h
  have GL := Lib.hid (Whole.lt h.1)
  obtain ⟨t, ht⟩ : ∃ t, t = textO s 128 := ⟨_, rfl⟩
  obtain ⟨R, hR⟩ : ∃ R, R = readE t := ⟨_, rfl⟩
  rw [← ht, ← hR]
  have hv : R.val = .agg R.cells := rfl
  rw [hv]
  clear h hv
  go_enter Tryd.func53, Tryd.ntmps53
  go_wp2_with (refine wpList_alloc_row rfl 24 rfl ent0.cells ent_zero ?_)
  intro w1 b1 x1 z1
  obtain ⟨r, hr⟩ : ∃ r, r = w.heap.size := ⟨_, rfl⟩
  rw [← hr] at x1 ⊢
  have RR := Lib.hid (Nat.le_of_eq hr.symm)
  have X1 := Lib.hid x1
  have K1 : Hid (Keeps (fun i => i = g) w w1) := Lib.hid (Keeps.of_below b1)
  have C := pkText g 128 s w1 (H.out.belowR b1)
  rw [← ht] at C
  have C := Lib.hid C
  clear b1 x1 z1 hr ht
  go_wp2_with fail
  refine C.out.mono ?_
  rintro e w2 ⟨rfl, hr2, hg2⟩
  have X2 := Lib.hid (Whole.grown X1.out hg2 (fun k => by injection k with k; have := GL.out; have := RR.out; omega))
  have K2 := Lib.hid (K1.out.then (Keeps.of_grown (F := fun i => i = g) hg2 (fun k hk => by injection hk with hk; exact .inl hk.symm)) (fun i hi => .inl hi))
  have R2 := Lib.hid hr2
  clear hr2 hg2 C X1 K1
  obtain ⟨vs, w3, r3, y3, b3⟩ := conv_str w2 ⟨t.toArray⟩
  have y3 : BytesAt w3 vs t := by simpa using y3
  obtain ⟨A3, cap3, hvs, -, -⟩ := y3
  subst hvs
  have X3 := Lib.hid (Whole.below X2.out b3 X2.out.lt)
  have K3 := Lib.hid (K2.out.trans (Keeps.of_below b3))
  have R3 := Lib.hid (R2.out.belowR b3)
  have C := read_any A3 _ cap3 t w3 y3
  rw [← hR] at C
  have C := Lib.hid C
  clear b3 y3 X2 K2 R2 hR
  go_wp2_with fail
  refine C.out.mono ?_
  rintro e w4 ⟨rfl, b4⟩
  have X4 := Lib.hid (Whole.below X3.out b4 X3.out.lt)
  have K4 := Lib.hid (K3.out.trans (Keeps.of_below b4))
  have R4 := Lib.hid (R3.out.belowR b4)
  clear b4 X3 K3 R3 r3 C
  go_wp2_with (refine wpList_alloc_row rfl 24 rfl ent0.cells ent_zero ?_)
  intro w5 b5 x5 z5
  obtain ⟨x, hx⟩ : ∃ x, x = w4.heap.size := ⟨_, rfl⟩
  rw [← hx] at x5 ⊢
  have XX := Lib.hid (show w.heap.size ≤ x ∧ r < x ∧ g < x by rw [hx]; exact ⟨K4.out.size, X4.out.lt, Nat.lt_of_lt_of_le GL.out K4.out.size⟩)
  have E5 := Lib.hid x5
  have X5 := Lib.hid (Whole.below X4.out b5 X4.out.lt)
  have K5 := Lib.hid (K4.out.trans (Keeps.of_below b5))
  have R5 := Lib.hid (R4.out.belowR b5)
  clear b5 x5 z5 X4 K4 R4 hx
  go_wp2_with (with_reducible refine wpList_store_whole rfl 24 _ _ rfl x R.cells (by with_unfolding_all exact rfl) (by with_unfolding_all exact rfl) _ _ E5.out (ent_size' _) rfl (Ent.cells_one _) ?_)
  intro w6 g6 x6 z6
  have E6 : Hid (EntAt w6 x R) := Lib.hid x6
  have X6 := Lib.hid (Whole.grown X5.out g6 (fun k => by injection k with k; have := XX.out; omega))
  have K6 := Lib.hid (K5.out.then (Keeps.of_grown (F := fun i => i = x) g6 (fun k hk => by injection hk with hk; exact .inl hk.symm)) (fun i hi => .inr (by rw [hi]; exact XX.out.1)))
  have R6 := Lib.hid (R5.out.apart g6 (by have := XX.out; omega))
  clear g6 x6 z6 E5 X5 K5 R5
  go_wp2_with (first | (with_reducible refine wpList_load_ent rfl _ rfl x (by with_unfolding_all exact rfl) R E6.out ?_) | (with_reducible refine wpList_store_whole rfl 24 _ _ rfl r R.cells (by with_unfolding_all exact rfl) (by with_unfolding_all exact rfl) _ _ X6.out (ent_size' _) rfl (Ent.cells_one _) ?_))
  intro w7 g7 x7 z7
  have X7 : Hid (EntAt w7 r R) := Lib.hid x7
  have K7 := Lib.hid (K6.out.then (Keeps.of_grown (F := fun i => i = r) g7 (fun k hk => by injection hk with hk; exact .inl hk.symm)) (fun i hi => .inr (by rw [hi]; exact RR.out)))
  have R7 := Lib.hid (R6.out.apart g7 (by have := GL.out; have := RR.out; omega))
  clear g7 x7 z7 E6 X6 K6 R6
  go_wp2
  exact bodyPost_ret (results_ent rfl _ _ _ _ rfl X7.out) rfl ⟨rfl, R7.out, K7.out.grown⟩

set_option maxRecDepth 100000 in
set_option maxHeartbeats 1000000 in
theorem heTakeHello_any (v : Value) (b : List UInt8) (w : World) (h : BytesAt w v b) :
    Calls Tryd.prog 24 #[v] w fun e w' => e = .returned (.tuple #[(takeH b).val, .int .i64 (takeHX b)]) ∧ Below w.heap.size w w' := by
  have H := Lib.hid h
  have CK := fun w1 (b1 : Below w.heap.size w w1) => Lib.hid (heKindOf_any v b w1 (h.below b1))
  have EX : Hid (takeHX b = if kindB b ≠ 1 then 13 else if endE (ht4 b) ≠ 0 then endE (ht4 b) else if rightH (takeHP b) = true then 0 else 11) := Lib.hid rfl
  have EE : Hid (takeH b = if takeHX b = 0 then takeHP b else Hel.zero) := Lib.hid rfl
  obtain ⟨rx, hrx⟩ : ∃ rx, rx = takeHX b := ⟨_, rfl⟩
  obtain ⟨re, hre⟩ : ∃ re, re = takeH b := ⟨_, rfl⟩
  rw [← hrx] at EX EE ⊢
  rw [← hre] at EE ⊢
  by_cases hk : kindB b = 1
  · obtain ⟨c, r, hb, -⟩ := kind_cons hk (by decide)
    have hl : 1 ≤ b.length := by rw [hb]; simp
    have EX2 : Hid (rx = if endE (ht4 b) ≠ 0 then endE (ht4 b) else if rightH (takeHP b) = true then 0 else 11) := Lib.hid (by rw [EX.out, if_neg (by simp [hk])])
    rw [hk] at CK
    obtain ⟨A, cap, rfl, -, -⟩ := h
    have CB := fun w1 (b1 : Below w.heap.size w w1) => Lib.hid (heBehind_any A b.length cap b w1 (H.out.below b1) hl)
    obtain ⟨d, hd⟩ : ∃ z, z = textO ⟨b.drop 1, 0⟩ 16 := ⟨_, rfl⟩
    obtain ⟨n, hn⟩ : ∃ z, z = numO (ht1 b) 8 := ⟨_, rfl⟩
    obtain ⟨en, hen⟩ : ∃ z, z = readE (textO (ht2 b) 128) := ⟨_, rfl⟩
    obtain ⟨t, ht⟩ : ∃ z, z = rawO (ht3 b) 32 := ⟨_, rfl⟩
    have hP : takeHP b = ⟨d, n, en, t⟩ := by rw [hd, hn, hen, ht]; rfl
    rw [hP] at EX2 EE
    have Yd := Lib.hid hd
    have Yn := Lib.hid hn
    have Yen := Lib.hid hen
    have Yt := Lib.hid ht
    clear hrx hre hk hb hl EX H hP hd hn hen ht
    go_enter Tryd.func24, Tryd.ntmps24
    go_wp2_with (refine wpList_alloc_row rfl 26 rfl Hel.zero.enc.toArray Hel.zero_is ?_)
    intro w1 b1 x1 z1
    obtain ⟨gR, hgR⟩ : ∃ g, g = w.heap.size := ⟨_, rfl⟩
    have M_R := Lib.hid (show w.heap.size ≤ gR from by rw [hgR]; exact Nat.le_refl _)
    have B1 := Lib.hid b1
    rw [← hgR] at x1 ⊢
    have R1 : Hid (Hel.At w1 gR Hel.zero) := Lib.hid x1
    clear b1 x1 z1 hgR 
    go_wp2_with (first | (with_reducible refine wpList_load_whole Hel.isRec rfl _ rfl gR (by with_unfolding_all exact rfl) _ _ (Hel.len _) R1.out ?_) | (with_reducible refine wpList_load_rec Ent.isRec rfl _ rfl gR 2 (by with_unfolding_all exact rfl) _ (Ent.len _) (Hel.At.part_entry R1.out) ?_))
    refine ((CK w1 B1.out).out).mono ?_
    rintro e2 w2 ⟨rfl, b2⟩
    have R2 : Hid (Hel.At w2 gR Hel.zero) := Lib.hid (Whole.below R1.out b2 R1.out.lt)
    have B2 := Lib.hid (B1.out.trans (b2.mono B1.out.size))
    clear b2 R1 B1
    go_wp2_with fail
    refine (CB w2 B2.out).out.mono ?_
    rintro e w0 ⟨rfl, hr, hb⟩
    have F0 : Hid (RdX w gR w2.heap.size 26 Hel.zero.enc.toArray w0 ⟨b.drop 1, 0⟩) := Lib.hid {
      res := Whole.below R2.out hb R2.out.lt
      rd := hr
      low := B2.out.trans (hb.mono B2.out.size)
      rg := R2.out.lt
      r0 := M_R.out }
    obtain ⟨g, hg⟩ : ∃ g, g = w2.heap.size := ⟨_, rfl⟩
    rw [← hg] at F0 ⊢
    clear hr hb R2 B2 hg CK CB
    have C := pkText g 16 ⟨b.drop 1, 0⟩ _ F0.out.rd
    rw [← Yd.out] at C
    have C := Lib.hid C
    go_wp2_with fail
    refine C.out.mono ?_
    rintro e v0 ⟨rfl, hr, hg⟩
    have G0 : Hid (RdX w gR g 26 Hel.zero.enc.toArray v0 (ht1 b)) := Lib.hid (F0.out.call hr hg)
    clear hr hg C F0
    have F0 := G0
    clear G0
    have C := pkNum g 8 (ht1 b) _ F0.out.rd (by decide) (by decide)
    rw [← Yn.out] at C
    have C := Lib.hid C
    go_wp2_with fail
    refine C.out.mono ?_
    rintro e v1 ⟨rfl, hr, hg⟩
    have G0 : Hid (RdX w gR g 26 Hel.zero.enc.toArray v1 (ht2 b)) := Lib.hid (F0.out.call hr hg)
    clear hr hg C F0
    have F0 := G0
    clear G0
    have C := heTakeEntry_any g (ht2 b) _ F0.out.rd
    rw [← Yen.out] at C
    have C := Lib.hid C
    go_wp2_with fail
    refine C.out.mono ?_
    rintro e v2 ⟨rfl, hr, hg⟩
    have G0 : Hid (RdX w gR g 26 Hel.zero.enc.toArray v2 (ht3 b)) := Lib.hid (F0.out.call hr hg)
    clear hr hg C F0
    have F0 := G0
    clear G0
    have C := pkRaw g 32 (ht3 b) _ F0.out.rd
    rw [← Yt.out] at C
    have C := Lib.hid C
    go_wp2_with fail
    refine C.out.mono ?_
    rintro e v3 ⟨rfl, hr, hg⟩
    have G0 : Hid (RdX w gR g 26 Hel.zero.enc.toArray v3 (ht4 b)) := Lib.hid (F0.out.call hr hg)
    clear hr hg C F0
    have F0 := G0
    clear G0
    go_wp2_with (first | (with_reducible refine wpList_build_rec rfl 26 _ rfl #[(0, .string ⟨d.toArray⟩), (1, .int .u64 (n : Int)), (2, en.val), (3, .string ⟨t.toArray⟩)] (by with_unfolding_all exact rfl) (Hel.enc ⟨d, n, en, t⟩).toArray (by kernel_rfl) ?_) | (refine wpList_alloc_row rfl 26 rfl Hel.zero.enc.toArray Hel.zero_is ?_))
    intro w3 b3 x3 z3
    clear Yd Yn Yen Yt
    have F3 := Lib.hid (F0.out.under b3)
    have gx := Whole.lt F0.out.rd.1
    have E3 : Hid (Whole w3 v3.heap.size 26 Hel.zero.enc.toArray) := Lib.hid x3
    obtain ⟨x, hx⟩ : ∃ x, x = v3.heap.size := ⟨_, rfl⟩
    rw [← hx] at E3 gx ⊢
    have GX := Lib.hid gx
    clear b3 x3 z3 F0 hx gx
    go_wp2_with (with_reducible refine wpList_store_whole rfl 26 _ _ rfl x (Hel.enc ⟨d, n, en, t⟩).toArray (by with_unfolding_all exact rfl) (by with_unfolding_all exact rfl) _ _ E3.out (Hel.size _) rfl (Hel.one _) ?_)
    intro w4 g4 x4 z4
    have G2 := Lib.hid (F3.out.apart g4 GX.out)
    have E4 : Hid (Hel.At w4 x ⟨d, n, en, t⟩) := Lib.hid x4
    clear g4 x4 z4 F3 E3
    have C := Lib.hid (pkEnd g (ht4 b) _ G2.out.rd)
    go_wp2_with fail
    refine C.out.mono ?_
    rintro e v6 ⟨rfl, hv⟩
    subst hv
    clear C
    have R7 : Hid (Whole w4 gR 26 Hel.zero.enc.toArray) := Lib.hid G2.out.res
    have D7 := Lib.hid G2.out.low
    have RR := Lib.hid G2.out.r0
    clear G2
    by_cases hE : endE (ht4 b) = 0
    · have dE : (endE (ht4 b) != 0) = false := by simp [hE]
      have EX1 : Hid (rx = if rightH ⟨d, n, en, t⟩ = true then 0 else 11) := Lib.hid (by have q := EX2.out; rw [if_neg (by simp [hE])] at q; exact q)
      clear EX2 hE
      have CR := fun w => Lib.hid (heRightHello_any ⟨d, n, en, t⟩ w)
      generalize hPP : (⟨d, n, en, t⟩ : Hel) = PP at *
      clear hPP
      go_wp2_with (with_reducible refine wpList_load_whole Hel.isRec rfl _ rfl x (by with_unfolding_all exact rfl) _ _ (Hel.len _) E4.out ?_)
      refine (CR w4).out.mono ?_
      rintro e v7 ⟨rfl, b7⟩
      have L7 : Hid (Hel.At v7 x PP) := Lib.hid (Whole.below E4.out b7 E4.out.lt)
      have R8 : Hid (Whole v7 gR 26 Hel.zero.enc.toArray) := Lib.hid (Whole.below R7.out b7 R7.out.lt)
      have D8 := Lib.hid (D7.out.trans (b7.mono D7.out.size))
      clear b7 CR E4 dE R7 D7
      have R7 := R8
      have D7 := D8
      clear R8 D8
      cases hR : rightH PP with
      | true =>
        have q := EX1.out
        rw [if_pos hR] at q
        have qe := EE.out
        rw [if_pos q] at qe
        subst q qe
        clear EE EX1 hR
        go_wp2_with (first | (with_reducible refine wpList_load_whole Hel.isRec rfl _ rfl x (by with_unfolding_all exact rfl) _ _ (Hel.len _) L7.out ?_) | (with_reducible refine wpList_store_whole rfl 26 _ _ rfl gR (Hel.enc re).toArray (by with_unfolding_all exact rfl) (by with_unfolding_all exact rfl) _ _ R7.out (Hel.size _) rfl (Hel.one _) ?_))
        intro w8 g8 x8 z8
        have R8 : Hid (Hel.At w8 gR re) := Lib.hid x8
        have D8 := Lib.hid (D7.out.grown g8 D7.out.size (fun k hk => by injection hk with hk; have := RR.out; omega))
        clear g8 x8 z8 R7 D7 L7
        go_wp2
        exact bodyPost_ret (results_rec_tmp Hel.isRec rfl _ _ _ _ _ rfl rfl R8.out) rfl ⟨rfl, D8.out⟩
      | false =>
        have q := EX1.out
        rw [if_neg (by rw [hR]; decide)] at q
        have qe := EE.out
        rw [if_neg (by rw [q]; decide)] at qe
        subst q qe
        clear EE EX1 hR
        go_wp2_with (first | (with_reducible refine wpList_build_rec rfl 26 _ rfl #[] (by with_unfolding_all exact rfl) Hel.zero.enc.toArray (by kernel_rfl) ?_) | (with_reducible refine wpList_store_whole rfl 26 _ _ rfl gR Hel.zero.enc.toArray (by with_unfolding_all exact rfl) (by with_unfolding_all exact rfl) _ _ R7.out (Hel.size _) rfl (Hel.one _) ?_))
        intro w8 g8 x8 z8
        have R8 : Hid (Hel.At w8 gR Hel.zero) := Lib.hid x8
        have D8 := Lib.hid (D7.out.grown g8 D7.out.size (fun k hk => by injection hk with hk; have := RR.out; omega))
        clear g8 x8 z8 R7 D7 L7
        go_wp2
        exact bodyPost_ret (results_rec_tmp Hel.isRec rfl _ _ _ _ _ rfl rfl R8.out) rfl ⟨rfl, D8.out⟩
    · have dE : (endE (ht4 b) != 0) = true := by simp [hE]
      have q := EX2.out
      rw [if_pos hE] at q
      have qe := EE.out
      rw [if_neg (by rw [q]; exact hE)] at qe
      subst qe
      generalize endE (ht4 b) = ee at *
      subst q
      clear EE EX2 hE E4
      go_wp2_with (first | (with_reducible refine wpList_build_rec rfl 26 _ rfl #[] (by with_unfolding_all exact rfl) Hel.zero.enc.toArray (by kernel_rfl) ?_) | (with_reducible refine wpList_store_whole rfl 26 _ _ rfl gR Hel.zero.enc.toArray (by with_unfolding_all exact rfl) (by with_unfolding_all exact rfl) _ _ R7.out (Hel.size _) rfl (Hel.one _) ?_))
      intro w8 g8 x8 z8
      have R8 : Hid (Hel.At w8 gR Hel.zero) := Lib.hid x8
      have D8 := Lib.hid (D7.out.grown g8 D7.out.size (fun k hk => by injection hk with hk; have := RR.out; omega))
      clear g8 x8 z8 R7 D7
      go_wp2
      exact bodyPost_ret (results_rec_tmp Hel.isRec rfl _ _ _ _ _ rfl rfl R8.out) rfl ⟨rfl, D8.out⟩
  · have q := EX.out
    rw [if_pos hk] at q
    have qe := EE.out
    rw [if_neg (by rw [q]; decide)] at qe
    have dk : (kindB b != 1) = true := by simpa using hk
    obtain ⟨A, cap, rfl, -, -⟩ := h
    generalize kindB b = kb at *
    subst q qe
    clear EE EX H hk hrx hre
    go_enter Tryd.func24, Tryd.ntmps24
    go_wp2_with (refine wpList_alloc_row rfl 26 rfl Hel.zero.enc.toArray Hel.zero_is ?_)
    intro w1 b1 x1 z1
    obtain ⟨gR, hgR⟩ : ∃ g, g = w.heap.size := ⟨_, rfl⟩
    have M_R := Lib.hid (show w.heap.size ≤ gR from by rw [hgR]; exact Nat.le_refl _)
    have B1 := Lib.hid b1
    rw [← hgR] at x1 ⊢
    have R1 : Hid (Hel.At w1 gR Hel.zero) := Lib.hid x1
    clear b1 x1 z1 hgR 
    go_wp2_with (first | (with_reducible refine wpList_load_whole Hel.isRec rfl _ rfl gR (by with_unfolding_all exact rfl) _ _ (Hel.len _) R1.out ?_) | (with_reducible refine wpList_load_rec Ent.isRec rfl _ rfl gR 2 (by with_unfolding_all exact rfl) _ (Ent.len _) (Hel.At.part_entry R1.out) ?_))
    refine ((CK w1 B1.out).out).mono ?_
    rintro e2 w2 ⟨rfl, b2⟩
    have R2 : Hid (Hel.At w2 gR Hel.zero) := Lib.hid (Whole.below R1.out b2 R1.out.lt)
    have B2 := Lib.hid (B1.out.trans (b2.mono B1.out.size))
    clear b2 R1 B1
    go_wp2_with (first | (with_reducible refine wpList_load_whole Hel.isRec rfl _ rfl gR (by with_unfolding_all exact rfl) _ _ (Hel.len _) R2.out ?_) | (with_reducible refine wpList_load_rec Ent.isRec rfl _ rfl gR 2 (by with_unfolding_all exact rfl) _ (Ent.len _) (Hel.At.part_entry R2.out) ?_) | (with_reducible refine wpList_store_whole rfl 26 _ _ rfl gR Hel.zero.enc.toArray (by with_unfolding_all exact rfl) (by with_unfolding_all exact rfl) _ _ R2.out (Hel.size _) rfl (Hel.one _) ?_) | (with_reducible refine wpList_build_rec rfl 26 _ rfl #[] (by with_unfolding_all exact rfl) Hel.zero.enc.toArray (by kernel_rfl) ?_))
    intro w3 q3 x3 z3
    have R3 : Hid (Hel.At w3 gR Hel.zero) := Lib.hid x3
    have B3 := Lib.hid (B2.out.grown q3 B2.out.size (fun k hk => by injection hk with hk; have := M_R.out; omega))
    clear q3 x3 z3 R2 B2
    go_wp2
    exact bodyPost_ret (results_rec_tmp Hel.isRec rfl _ _ _ _ _ rfl rfl R3.out) rfl ⟨rfl, B3.out⟩

set_option maxRecDepth 100000 in
set_option maxHeartbeats 1000000 in
theorem heTakeWelcome_any (v : Value) (b : List UInt8) (w : World) (h : BytesAt w v b) :
    Calls Tryd.prog 26 #[v] w fun e w' => e = .returned (.tuple #[(takeW b).val, .int .i64 (takeWX b)]) ∧ Below w.heap.size w w' := by
  have H := Lib.hid h
  have CK := fun w1 (b1 : Below w.heap.size w w1) => Lib.hid (heKindOf_any v b w1 (h.below b1))
  have EX : Hid (takeWX b = if kindB b ≠ 2 then 13 else if endE (wt4 b) ≠ 0 then endE (wt4 b) else if rightW (takeWP b) = true then 0 else 11) := Lib.hid rfl
  have EE : Hid (takeW b = if takeWX b = 0 then takeWP b else Wel.zero) := Lib.hid rfl
  obtain ⟨rx, hrx⟩ : ∃ rx, rx = takeWX b := ⟨_, rfl⟩
  obtain ⟨re, hre⟩ : ∃ re, re = takeW b := ⟨_, rfl⟩
  rw [← hrx] at EX EE ⊢
  rw [← hre] at EE ⊢
  by_cases hk : kindB b = 2
  · obtain ⟨c, r, hb, -⟩ := kind_cons hk (by decide)
    have hl : 1 ≤ b.length := by rw [hb]; simp
    have EX2 : Hid (rx = if endE (wt4 b) ≠ 0 then endE (wt4 b) else if rightW (takeWP b) = true then 0 else 11) := Lib.hid (by rw [EX.out, if_neg (by simp [hk])])
    rw [hk] at CK
    obtain ⟨A, cap, rfl, -, -⟩ := h
    have CB := fun w1 (b1 : Below w.heap.size w w1) => Lib.hid (heBehind_any A b.length cap b w1 (H.out.below b1) hl)
    obtain ⟨m, hm⟩ : ∃ z, z = numO ⟨b.drop 1, 0⟩ 8 := ⟨_, rfl⟩
    obtain ⟨n, hn⟩ : ∃ z, z = numO (wt1 b) 8 := ⟨_, rfl⟩
    obtain ⟨en, hen⟩ : ∃ z, z = readE (textO (wt2 b) 128) := ⟨_, rfl⟩
    obtain ⟨t, ht⟩ : ∃ z, z = rawO (wt3 b) 32 := ⟨_, rfl⟩
    have hP : takeWP b = ⟨m, n, en, t⟩ := by rw [hm, hn, hen, ht]; rfl
    rw [hP] at EX2 EE
    have Ym := Lib.hid hm
    have Yn := Lib.hid hn
    have Yen := Lib.hid hen
    have Yt := Lib.hid ht
    clear hrx hre hk hb hl EX H hP hm hn hen ht
    go_enter Tryd.func26, Tryd.ntmps26
    go_wp2_with (refine wpList_alloc_row rfl 28 rfl Wel.zero.enc.toArray Wel.zero_is ?_)
    intro w1 b1 x1 z1
    obtain ⟨gR, hgR⟩ : ∃ g, g = w.heap.size := ⟨_, rfl⟩
    have M_R := Lib.hid (show w.heap.size ≤ gR from by rw [hgR]; exact Nat.le_refl _)
    have B1 := Lib.hid b1
    rw [← hgR] at x1 ⊢
    have R1 : Hid (Wel.At w1 gR Wel.zero) := Lib.hid x1
    clear b1 x1 z1 hgR 
    go_wp2_with (first | (with_reducible refine wpList_load_whole Wel.isRec rfl _ rfl gR (by with_unfolding_all exact rfl) _ _ (Wel.len _) R1.out ?_) | (with_reducible refine wpList_load_rec Ent.isRec rfl _ rfl gR 2 (by with_unfolding_all exact rfl) _ (Ent.len _) (Wel.At.part_entry R1.out) ?_))
    refine ((CK w1 B1.out).out).mono ?_
    rintro e2 w2 ⟨rfl, b2⟩
    have R2 : Hid (Wel.At w2 gR Wel.zero) := Lib.hid (Whole.below R1.out b2 R1.out.lt)
    have B2 := Lib.hid (B1.out.trans (b2.mono B1.out.size))
    clear b2 R1 B1
    go_wp2_with fail
    refine (CB w2 B2.out).out.mono ?_
    rintro e w0 ⟨rfl, hr, hb⟩
    have F0 : Hid (RdX w gR w2.heap.size 28 Wel.zero.enc.toArray w0 ⟨b.drop 1, 0⟩) := Lib.hid {
      res := Whole.below R2.out hb R2.out.lt
      rd := hr
      low := B2.out.trans (hb.mono B2.out.size)
      rg := R2.out.lt
      r0 := M_R.out }
    obtain ⟨g, hg⟩ : ∃ g, g = w2.heap.size := ⟨_, rfl⟩
    rw [← hg] at F0 ⊢
    clear hr hb R2 B2 hg CK CB
    have C := pkNum g 8 ⟨b.drop 1, 0⟩ _ F0.out.rd (by decide) (by decide)
    rw [← Ym.out] at C
    have C := Lib.hid C
    go_wp2_with fail
    refine C.out.mono ?_
    rintro e v0 ⟨rfl, hr, hg⟩
    have G0 : Hid (RdX w gR g 28 Wel.zero.enc.toArray v0 (wt1 b)) := Lib.hid (F0.out.call hr hg)
    clear hr hg C F0
    have F0 := G0
    clear G0
    have C := pkNum g 8 (wt1 b) _ F0.out.rd (by decide) (by decide)
    rw [← Yn.out] at C
    have C := Lib.hid C
    go_wp2_with fail
    refine C.out.mono ?_
    rintro e v1 ⟨rfl, hr, hg⟩
    have G0 : Hid (RdX w gR g 28 Wel.zero.enc.toArray v1 (wt2 b)) := Lib.hid (F0.out.call hr hg)
    clear hr hg C F0
    have F0 := G0
    clear G0
    have C := heTakeEntry_any g (wt2 b) _ F0.out.rd
    rw [← Yen.out] at C
    have C := Lib.hid C
    go_wp2_with fail
    refine C.out.mono ?_
    rintro e v2 ⟨rfl, hr, hg⟩
    have G0 : Hid (RdX w gR g 28 Wel.zero.enc.toArray v2 (wt3 b)) := Lib.hid (F0.out.call hr hg)
    clear hr hg C F0
    have F0 := G0
    clear G0
    have C := pkRaw g 32 (wt3 b) _ F0.out.rd
    rw [← Yt.out] at C
    have C := Lib.hid C
    go_wp2_with fail
    refine C.out.mono ?_
    rintro e v3 ⟨rfl, hr, hg⟩
    have G0 : Hid (RdX w gR g 28 Wel.zero.enc.toArray v3 (wt4 b)) := Lib.hid (F0.out.call hr hg)
    clear hr hg C F0
    have F0 := G0
    clear G0
    go_wp2_with (first | (with_reducible refine wpList_build_rec rfl 28 _ rfl #[(0, .int .u64 (m : Int)), (1, .int .u64 (n : Int)), (2, en.val), (3, .string ⟨t.toArray⟩)] (by with_unfolding_all exact rfl) (Wel.enc ⟨m, n, en, t⟩).toArray (by kernel_rfl) ?_) | (refine wpList_alloc_row rfl 28 rfl Wel.zero.enc.toArray Wel.zero_is ?_))
    intro w3 b3 x3 z3
    clear Ym Yn Yen Yt
    have F3 := Lib.hid (F0.out.under b3)
    have gx := Whole.lt F0.out.rd.1
    have E3 : Hid (Whole w3 v3.heap.size 28 Wel.zero.enc.toArray) := Lib.hid x3
    obtain ⟨x, hx⟩ : ∃ x, x = v3.heap.size := ⟨_, rfl⟩
    rw [← hx] at E3 gx ⊢
    have GX := Lib.hid gx
    clear b3 x3 z3 F0 hx gx
    go_wp2_with (with_reducible refine wpList_store_whole rfl 28 _ _ rfl x (Wel.enc ⟨m, n, en, t⟩).toArray (by with_unfolding_all exact rfl) (by with_unfolding_all exact rfl) _ _ E3.out (Wel.size _) rfl (Wel.one _) ?_)
    intro w4 g4 x4 z4
    have G2 := Lib.hid (F3.out.apart g4 GX.out)
    have E4 : Hid (Wel.At w4 x ⟨m, n, en, t⟩) := Lib.hid x4
    clear g4 x4 z4 F3 E3
    have C := Lib.hid (pkEnd g (wt4 b) _ G2.out.rd)
    go_wp2_with fail
    refine C.out.mono ?_
    rintro e v6 ⟨rfl, hv⟩
    subst hv
    clear C
    have R7 : Hid (Whole w4 gR 28 Wel.zero.enc.toArray) := Lib.hid G2.out.res
    have D7 := Lib.hid G2.out.low
    have RR := Lib.hid G2.out.r0
    clear G2
    by_cases hE : endE (wt4 b) = 0
    · have dE : (endE (wt4 b) != 0) = false := by simp [hE]
      have EX1 : Hid (rx = if rightW ⟨m, n, en, t⟩ = true then 0 else 11) := Lib.hid (by have q := EX2.out; rw [if_neg (by simp [hE])] at q; exact q)
      clear EX2 hE
      have CR := fun w => Lib.hid (heRightWelcome_any ⟨m, n, en, t⟩ w)
      generalize hPP : (⟨m, n, en, t⟩ : Wel) = PP at *
      clear hPP
      go_wp2_with (with_reducible refine wpList_load_whole Wel.isRec rfl _ rfl x (by with_unfolding_all exact rfl) _ _ (Wel.len _) E4.out ?_)
      refine (CR w4).out.mono ?_
      rintro e v7 ⟨rfl, b7⟩
      have L7 : Hid (Wel.At v7 x PP) := Lib.hid (Whole.below E4.out b7 E4.out.lt)
      have R8 : Hid (Whole v7 gR 28 Wel.zero.enc.toArray) := Lib.hid (Whole.below R7.out b7 R7.out.lt)
      have D8 := Lib.hid (D7.out.trans (b7.mono D7.out.size))
      clear b7 CR E4 dE R7 D7
      have R7 := R8
      have D7 := D8
      clear R8 D8
      cases hR : rightW PP with
      | true =>
        have q := EX1.out
        rw [if_pos hR] at q
        have qe := EE.out
        rw [if_pos q] at qe
        subst q qe
        clear EE EX1 hR
        go_wp2_with (first | (with_reducible refine wpList_load_whole Wel.isRec rfl _ rfl x (by with_unfolding_all exact rfl) _ _ (Wel.len _) L7.out ?_) | (with_reducible refine wpList_store_whole rfl 28 _ _ rfl gR (Wel.enc re).toArray (by with_unfolding_all exact rfl) (by with_unfolding_all exact rfl) _ _ R7.out (Wel.size _) rfl (Wel.one _) ?_))
        intro w8 g8 x8 z8
        have R8 : Hid (Wel.At w8 gR re) := Lib.hid x8
        have D8 := Lib.hid (D7.out.grown g8 D7.out.size (fun k hk => by injection hk with hk; have := RR.out; omega))
        clear g8 x8 z8 R7 D7 L7
        go_wp2
        exact bodyPost_ret (results_rec_tmp Wel.isRec rfl _ _ _ _ _ rfl rfl R8.out) rfl ⟨rfl, D8.out⟩
      | false =>
        have q := EX1.out
        rw [if_neg (by rw [hR]; decide)] at q
        have qe := EE.out
        rw [if_neg (by rw [q]; decide)] at qe
        subst q qe
        clear EE EX1 hR
        go_wp2_with (first | (with_reducible refine wpList_build_rec rfl 28 _ rfl #[] (by with_unfolding_all exact rfl) Wel.zero.enc.toArray (by kernel_rfl) ?_) | (with_reducible refine wpList_store_whole rfl 28 _ _ rfl gR Wel.zero.enc.toArray (by with_unfolding_all exact rfl) (by with_unfolding_all exact rfl) _ _ R7.out (Wel.size _) rfl (Wel.one _) ?_))
        intro w8 g8 x8 z8
        have R8 : Hid (Wel.At w8 gR Wel.zero) := Lib.hid x8
        have D8 := Lib.hid (D7.out.grown g8 D7.out.size (fun k hk => by injection hk with hk; have := RR.out; omega))
        clear g8 x8 z8 R7 D7 L7
        go_wp2
        exact bodyPost_ret (results_rec_tmp Wel.isRec rfl _ _ _ _ _ rfl rfl R8.out) rfl ⟨rfl, D8.out⟩
    · have dE : (endE (wt4 b) != 0) = true := by simp [hE]
      have q := EX2.out
      rw [if_pos hE] at q
      have qe := EE.out
      rw [if_neg (by rw [q]; exact hE)] at qe
      subst qe
      generalize endE (wt4 b) = ee at *
      subst q
      clear EE EX2 hE E4
      go_wp2_with (first | (with_reducible refine wpList_build_rec rfl 28 _ rfl #[] (by with_unfolding_all exact rfl) Wel.zero.enc.toArray (by kernel_rfl) ?_) | (with_reducible refine wpList_store_whole rfl 28 _ _ rfl gR Wel.zero.enc.toArray (by with_unfolding_all exact rfl) (by with_unfolding_all exact rfl) _ _ R7.out (Wel.size _) rfl (Wel.one _) ?_))
      intro w8 g8 x8 z8
      have R8 : Hid (Wel.At w8 gR Wel.zero) := Lib.hid x8
      have D8 := Lib.hid (D7.out.grown g8 D7.out.size (fun k hk => by injection hk with hk; have := RR.out; omega))
      clear g8 x8 z8 R7 D7
      go_wp2
      exact bodyPost_ret (results_rec_tmp Wel.isRec rfl _ _ _ _ _ rfl rfl R8.out) rfl ⟨rfl, D8.out⟩
  · have q := EX.out
    rw [if_pos hk] at q
    have qe := EE.out
    rw [if_neg (by rw [q]; decide)] at qe
    have dk : (kindB b != 2) = true := by simpa using hk
    obtain ⟨A, cap, rfl, -, -⟩ := h
    generalize kindB b = kb at *
    subst q qe
    clear EE EX H hk hrx hre
    go_enter Tryd.func26, Tryd.ntmps26
    go_wp2_with (refine wpList_alloc_row rfl 28 rfl Wel.zero.enc.toArray Wel.zero_is ?_)
    intro w1 b1 x1 z1
    obtain ⟨gR, hgR⟩ : ∃ g, g = w.heap.size := ⟨_, rfl⟩
    have M_R := Lib.hid (show w.heap.size ≤ gR from by rw [hgR]; exact Nat.le_refl _)
    have B1 := Lib.hid b1
    rw [← hgR] at x1 ⊢
    have R1 : Hid (Wel.At w1 gR Wel.zero) := Lib.hid x1
    clear b1 x1 z1 hgR 
    go_wp2_with (first | (with_reducible refine wpList_load_whole Wel.isRec rfl _ rfl gR (by with_unfolding_all exact rfl) _ _ (Wel.len _) R1.out ?_) | (with_reducible refine wpList_load_rec Ent.isRec rfl _ rfl gR 2 (by with_unfolding_all exact rfl) _ (Ent.len _) (Wel.At.part_entry R1.out) ?_))
    refine ((CK w1 B1.out).out).mono ?_
    rintro e2 w2 ⟨rfl, b2⟩
    have R2 : Hid (Wel.At w2 gR Wel.zero) := Lib.hid (Whole.below R1.out b2 R1.out.lt)
    have B2 := Lib.hid (B1.out.trans (b2.mono B1.out.size))
    clear b2 R1 B1
    go_wp2_with (first | (with_reducible refine wpList_load_whole Wel.isRec rfl _ rfl gR (by with_unfolding_all exact rfl) _ _ (Wel.len _) R2.out ?_) | (with_reducible refine wpList_load_rec Ent.isRec rfl _ rfl gR 2 (by with_unfolding_all exact rfl) _ (Ent.len _) (Wel.At.part_entry R2.out) ?_) | (with_reducible refine wpList_store_whole rfl 28 _ _ rfl gR Wel.zero.enc.toArray (by with_unfolding_all exact rfl) (by with_unfolding_all exact rfl) _ _ R2.out (Wel.size _) rfl (Wel.one _) ?_) | (with_reducible refine wpList_build_rec rfl 28 _ rfl #[] (by with_unfolding_all exact rfl) Wel.zero.enc.toArray (by kernel_rfl) ?_))
    intro w3 q3 x3 z3
    have R3 : Hid (Wel.At w3 gR Wel.zero) := Lib.hid x3
    have B3 := Lib.hid (B2.out.grown q3 B2.out.size (fun k hk => by injection hk with hk; have := M_R.out; omega))
    clear q3 x3 z3 R2 B2
    go_wp2
    exact bodyPost_ret (results_rec_tmp Wel.isRec rfl _ _ _ _ _ rfl rfl R3.out) rfl ⟨rfl, B3.out⟩

set_option maxRecDepth 100000 in
set_option maxHeartbeats 2000000 in
theorem heTakeReset_any (v : Value) (b : List UInt8) (w : World) (h : BytesAt w v b) :
    Calls Tryd.prog 28 #[v] w fun e w' => e = .returned (.tuple #[.int .u64 (takeR b : Int), .int .i64 (takeRX b)]) ∧ Below w.heap.size w w' := by
  have H := Lib.hid h
  have CK := fun w1 (b1 : Below w.heap.size w w1) => Lib.hid (heKindOf_any v b w1 (h.below b1))
  have EX : Hid (takeRX b = if kindB b ≠ 4 then 13 else if endE (wt1 b) ≠ 0 then endE (wt1 b) else if numO ⟨b.drop 1, 0⟩ 8 = 0 then 11 else 0) := Lib.hid rfl
  have EE : Hid (takeR b = if takeRX b = 0 then numO ⟨b.drop 1, 0⟩ 8 else 0) := Lib.hid rfl
  obtain ⟨rx, hrx⟩ : ∃ rx, rx = takeRX b := ⟨_, rfl⟩
  obtain ⟨re, hre⟩ : ∃ re, re = takeR b := ⟨_, rfl⟩
  rw [← hrx] at EX EE ⊢
  rw [← hre] at EE ⊢
  by_cases hk : kindB b = 4
  · obtain ⟨c, r, hb, -⟩ := kind_cons hk (by decide)
    have hl : 1 ≤ b.length := by rw [hb]; simp
    have EX2 : Hid (rx = if endE (wt1 b) ≠ 0 then endE (wt1 b) else if numO ⟨b.drop 1, 0⟩ 8 = 0 then 11 else 0) := Lib.hid (by rw [EX.out, if_neg (by simp [hk])])
    rw [hk] at CK
    obtain ⟨A, cap, rfl, -, -⟩ := h
    have CB := fun w1 (b1 : Below w.heap.size w w1) => Lib.hid (heBehind_any A b.length cap b w1 (H.out.below b1) hl)
    obtain ⟨n, hn⟩ : ∃ n, n = numO ⟨b.drop 1, 0⟩ 8 := ⟨_, rfl⟩
    obtain ⟨en, hen⟩ : ∃ en, en = endE (wt1 b) := ⟨_, rfl⟩
    rw [← hn, ← hen] at EX2
    rw [← hn] at EE
    have Yn := Lib.hid hn
    have Yen := Lib.hid hen
    clear hrx hre hk hb hl EX H hn hen
    go_enter Tryd.func28, Tryd.ntmps28
    go_wp2_with fail
    refine ((CK w (Below.refl _ _)).out).mono ?_
    rintro e1 w1 ⟨rfl, b1⟩
    have B1 := Lib.hid b1
    clear b1 
    go_wp2_with fail
    refine (CB w1 B1.out).out.mono ?_
    rintro e w0 ⟨rfl, hr, hb⟩
    have BZ := Lib.hid (And.intro (B1.out.trans (hb.mono B1.out.size)) B1.out.size)
    obtain ⟨g, hg⟩ : ∃ g, g = w1.heap.size := ⟨_, rfl⟩
    rw [← hg] at BZ hr ⊢
    have R0 := Lib.hid hr
    clear hr hb B1 hg CK CB
    have C := pkNum g 8 ⟨b.drop 1, 0⟩ _ R0.out (by decide) (by decide)
    rw [← Yn.out] at C
    have C := Lib.hid C
    go_wp2_with fail
    refine C.out.mono ?_
    rintro e v1 ⟨rfl, hr, hg⟩
    have B1 := Lib.hid (BZ.out.1.grown hg BZ.out.1.size (fun k hk => by injection hk with hk; have := BZ.out.2; omega))
    have R1 : Hid (RdS v1 g (wt1 b)) := Lib.hid hr
    clear hr hg C R0 BZ
    have C := pkEnd g (wt1 b) _ R1.out
    rw [← Yen.out] at C
    have C := Lib.hid C
    go_wp2_with fail
    refine C.out.mono ?_
    rintro e v2 ⟨rfl, hv⟩
    subst hv
    clear C R1 Yn Yen
    by_cases hE : en = 0
    · have dE : (en != 0) = false := by simp [hE]
      by_cases hn : n = 0
      · have q : rx = 11 := by have q := EX2.out; rw [if_neg (by simp [hE]), if_pos hn] at q; exact q
        have qe : re = 0 := by have q2 := EE.out; rw [if_neg (by rw [q]; decide)] at q2; exact q2
        have dn : ((n : Int) == 0) = true := by simp [hn]
        subst q qe
        clear EX2 EE hE hn
        go_wp2
        go_ret2
        exact ⟨rfl, B1.out⟩
      · have q : rx = 0 := by have q := EX2.out; rw [if_neg (by simp [hE]), if_neg hn] at q; exact q
        have qe : re = n := by have q2 := EE.out; rw [if_pos q] at q2; exact q2
        have dn : ((n : Int) == 0) = false := by rw [beq_eq_false_iff_ne]; omega
        have dn2 : decide ((n : Int) = 0) = false := by simp; omega
        have dn3 : decide (n = 0) = false := by simpa using hn
        subst q qe
        clear EX2 EE hE
        go_wp2
        go_ret2
        exact ⟨rfl, B1.out⟩
    · have dE : (en != 0) = true := by simp [hE]
      have q : rx = en := by have q := EX2.out; rw [if_pos hE] at q; exact q
      have qe : re = 0 := by have q2 := EE.out; rw [if_neg (by rw [q]; exact hE)] at q2; exact q2
      subst q qe
      clear EX2 EE hE
      go_wp2
      go_ret2
      exact ⟨rfl, B1.out⟩
  · have q := EX.out
    rw [if_pos hk] at q
    have qe := EE.out
    rw [if_neg (by rw [q]; decide)] at qe
    have dk : (kindB b != 4) = true := by simpa using hk
    obtain ⟨A, cap, rfl, -, -⟩ := h
    generalize kindB b = kb at *
    subst q qe
    clear EE EX H hk hrx hre
    go_enter Tryd.func28, Tryd.ntmps28
    go_wp2_with fail
    refine ((CK w (Below.refl _ _)).out).mono ?_
    rintro e1 w1 ⟨rfl, b1⟩
    have B1 := Lib.hid b1
    clear b1 
    go_wp2
    go_ret2
    exact ⟨rfl, B1.out⟩
end Go.Proofs.YtpcdbpijgmninaaDoor
