/- The document's layer 17: what is read (tools/mkhftake.py writes it). -/
import Derived.Test.YtpcdbpijgmninaaDoorMHfR
import Derived.Test.YtpcdbpijgmninaaDoorMEnX
import Derived.Test.YtpcdbpijgmninaaDoorGv
namespace Go.Proofs.YtpcdbpijgmninaaDoor
set_option maxRecDepth 100000
open Go.RowKit

/-- A struct is stored in the place of one within another. -/
theorem wp_store_part {P : Program} {o : Oper} {a : Act} {w : World} {K : Act → World → Prop} {Q : Exit → Act → World → Prop} {t T : TypeId} (x y : Operand) (ho : o.op = .store t x y) (g off : Nat) (hx : a.eval x = .pointer (some ⟨g, off, none⟩)) (cs : List Value) (hy : a.eval y = .agg cs.toArray)
    (p q r : List Value) (hW : Whole w g T (p ++ q ++ r).toArray) (hp : p.length = off) (hq : q.length = cs.length) (hsz : (P.info? t).map (·.size) = some cs.length) (hone : ∀ u ∈ cs, u.oneCell' = true)
    (h : ∀ w', w.grownBy w' (some g) → Whole w' g T (p ++ cs ++ r).toArray → w'.heap.size = w.heap.size → K (a.put o.dst undef) w') : o.wp P a w K Q := by
  subst hp
  have hst := run_storeCells_at P g p.length T cs 0 (p ++ q ++ r).toArray w hW (by simp; omega) hone
  have hnew : (p ++ q ++ r).toArray.toList.take (p.length + 0) ++ cs ++ (p ++ q ++ r).toArray.toList.drop (p.length + 0 + cs.length) = p ++ cs ++ r := by
    rw [← hq]
    simp [List.append_assoc]
  rw [hnew] at hst
  have z := h (w.setRow g (p ++ cs ++ r).toArray) (grown_setRow w g _) (Whole.setRow hW) (by simp)
  cases hi : P.info? t with
  | none => rw [hi] at hsz; cases hsz
  | some i0 =>
    have hs : i0.size = cs.length := by rw [hi] at hsz; injection hsz
    have hz : (sizeOf t).run P w = .ok cs.length w := by simp [sizeOf, typeInfo, hi, hs]
    unfold Oper.wp execOp
    simp only [ho, hx, hy, Instr.storeAt, Instr.sureAddr, storeVar, hz, Value.cells, Sem.run_bind, Sem.run_pure, Result.andThen_ok, List.size_toArray, ne_eq, not_true_eq_false, if_false, hst, Oper.upon]
    exact z
theorem wpList_store_part {P : Program} {ops : Array Oper} {rest : List Oper} {o : Oper} {a : Act} {w : World} {Q : Exit → Act → World → Prop} {t T : TypeId} (hgd : o.guard = none) (x y : Operand) (ho : o.op = .store t x y) (g off : Nat) (hx : a.eval x = .pointer (some ⟨g, off, none⟩)) (cs : List Value) (hy : a.eval y = .agg cs.toArray)
    (p q r : List Value) (hW : Whole w g T (p ++ q ++ r).toArray) (hp : p.length = off) (hq : q.length = cs.length) (hsz : (P.info? t).map (·.size) = some cs.length) (hone : ∀ u ∈ cs, u.oneCell' = true)
    (h : ∀ w', w.grownBy w' (some g) → Whole w' g T (p ++ cs ++ r).toArray → w'.heap.size = w.heap.size → wpList P ops Q rest (a.put o.dst undef) w') : wpList P ops Q (o :: rest) a w :=
  wpList_plain hgd fun _ hK => wp_store_part x y ho g off hx cs hy p q r hW hp hq hsz hone fun w' p q r => hK _ _ (h w' p q r)

theorem textO_length (s : RS) (most : Nat) : (textO s most).length ≤ most := by
  rw [textO]
  split
  · simp
  · split
    · simp
    · rename_i h
      exact Nat.le_trans (rawO_length _ _) (by omega)
theorem rightH_none {x : Hel} (h : x.entry = ent0) : rightH x = false := by
  rw [rightH, h, entR_zero]
  simp
theorem rightW_none {x : Wel} (h : x.entry = ent0) : rightW x = false := by
  rw [rightW, h, entR_zero]
  simp

set_option maxRecDepth 100000 in
set_option maxHeartbeats 1000000 in
theorem hfKindOf_any (v : Value) (b : List UInt8) (w : World) (h : BytesAt w v b) :
    Calls Tryd.prog 31 #[v] w fun e w' => e = .returned (.int .i64 (kindB b)) ∧ Below w.heap.size w w' := by
  cases b with
  | nil =>
    obtain ⟨A, cap, rfl, -, -⟩ := h
    go_enter Tryd.func31, Tryd.ntmps31
    go_wp2
    go_ret
    exact ⟨rfl, Below.refl _ _⟩
  | cons c r =>
    have h0 := h
    obtain ⟨A, cap, rfl, -, -⟩ := h
    obtain ⟨g, off, rfl, -, hc⟩ := h0.spots (by simp)
    have c0 := hc 0 c rfl
    have HK : Hid (kindB (c :: r) = if 1 ≤ c.toNat ∧ c.toNat ≤ 4 then (c.toNat : Int) else 0) := Lib.hid rfl
    obtain ⟨z, hz⟩ : ∃ z, z = c.toNat := ⟨_, rfl⟩
    obtain ⟨K, hK⟩ : ∃ K, K = kindB (c :: r) := ⟨_, rfl⟩
    have hz8 : z < 256 := by rw [hz]; exact c.toNat_lt
    rw [← hz] at c0 HK
    rw [← hK] at HK ⊢
    simp at c0
    have L0 : decide ((0 : Int) < (r.length : Int) + 1) = true := decide_eq_true (by omega)
    have ew : IntKind.i64.wrap (z : Int) = (z : Int) := IntWalk.i64_in _ (by omega)
    clear h0 hc hz hK
    by_cases h1 : 1 ≤ z
    · have d1 : decide ((1 : Int) ≤ (z : Int)) = true := by simp; omega
      by_cases h4 : z ≤ 4
      · have d4 : decide ((z : Int) ≤ 4) = true := by simp; omega
        have HF : Hid (K = (z : Int)) := Lib.hid (by rw [HK.out, if_pos (by omega)])
        clear h1 h4 HK
        go_enter Tryd.func31, Tryd.ntmps31
        go_wp2
        go_ret
        exact ⟨by rw [HF.out]; rfl, Below.refl _ _⟩
      · have d4 : decide ((z : Int) ≤ 4) = false := by simp; omega
        have HF : Hid (K = 0) := Lib.hid (by rw [HK.out, if_neg (by omega)])
        clear h1 h4 HK
        go_enter Tryd.func31, Tryd.ntmps31
        go_wp2
        go_ret
        exact ⟨by rw [HF.out]; rfl, Below.refl _ _⟩
    · have d1 : decide ((1 : Int) ≤ (z : Int)) = false := by simp; omega
      have HF : Hid (K = 0) := Lib.hid (by rw [HK.out, if_neg (by omega)])
      clear h1 HK
      go_enter Tryd.func31, Tryd.ntmps31
      go_wp2
      go_ret
      exact ⟨by rw [HF.out]; rfl, Below.refl _ _⟩

/-- While the document reads a packet: r is the result, g the reader, x what is read. -/
structure RfX (w0 : World) (r g x : Nat) (T : TypeId) (cs xs : Array Value) (A : Option Addr) (cap : Nat) (b : List UInt8) (w : World) (s : RS) : Prop where
  ent : Whole w x T xs
  res : Whole w r T cs
  rd : RfS w g A cap b s
  low : Below w0.heap.size w0 w
  rg : r < g
  gx : g < x
  r0 : w0.heap.size ≤ r
  far : b ≠ [] → ∀ ad, A = some ad → ad.block < w0.heap.size
section
variable {w0 : World} {r g x y : Nat} {T : TypeId} {cs xs xs' : Array Value} {A : Option Addr} {cap : Nat} {b : List UInt8} {w w' : World} {s s' : RS}
theorem RfX.call (H : RfX w0 r g x T cs xs A cap b w s) (hr : RfS w' g A cap b s') (hg : w.grownBy w' (some g)) : RfX w0 r g x T cs xs A cap b w' s' where
  ent := Whole.grown H.ent hg (fun k => by injection k with k; have := H.gx; omega)
  res := Whole.grown H.res hg (fun k => by injection k with k; have := H.rg; omega)
  rd := hr
  low := H.low.grown hg H.low.size (fun k hk => by injection hk with hk; have := H.rg; have := H.r0; omega)
  rg := H.rg
  gx := H.gx
  r0 := H.r0
  far := H.far
theorem RfX.put (H : RfX w0 r g x T cs xs A cap b w s) {i : Nat} {u : Value} (h : Whole (w.setCell ⟨x, i, none⟩ u) x T xs') : RfX w0 r g x T cs xs' A cap b (w.setCell ⟨x, i, none⟩ u) s where
  ent := h
  res := Whole.grown H.res (grown_store w x i u) (fun k => by injection k with k; have := H.rg; have := H.gx; omega)
  rd := H.rd.apart (grown_store w x i u) (by have := H.gx; omega) (fun hb ad k => by have := H.far hb ad k; have := H.r0; have := H.rg; have := H.gx; omega)
  low := H.low.grown (grown_store w x i u) H.low.size (fun k hk => by injection hk with hk; have := H.rg; have := H.r0; have := H.gx; omega)
  rg := H.rg
  gx := H.gx
  r0 := H.r0
  far := H.far
theorem RfX.whole (H : RfX w0 r g x T cs xs A cap b w s) (hg : w.grownBy w' (some x)) (h : Whole w' x T xs') : RfX w0 r g x T cs xs' A cap b w' s where
  ent := h
  res := Whole.grown H.res hg (fun k => by injection k with k; have := H.rg; have := H.gx; omega)
  rd := H.rd.apart hg (by have := H.gx; omega) (fun hb ad k => by have := H.far hb ad k; have := H.r0; have := H.rg; have := H.gx; omega)
  low := H.low.grown hg H.low.size (fun k hk => by injection hk with hk; have := H.rg; have := H.r0; have := H.gx; omega)
  rg := H.rg
  gx := H.gx
  r0 := H.r0
  far := H.far
end
/-- A reader of what stands behind a packet's first byte. -/
theorem hfOpen_one {w w' : World} {A : Option Addr} {n : Nat} {b : List UInt8} (h : BytesAt w (.slice A n 1) b) (hn : 1 ≤ n) (hb : Below w.heap.size w w') :
    Calls Tryd.prog 56 #[.slice A 0 0] w' fun e w2 => e = .returned (.pointer (some ⟨w'.heap.size, 0, none⟩)) ∧ RfS w2 w'.heap.size A 0 (b.drop 1) ⟨b.drop 1, 0⟩ ∧ Below w'.heap.size w' w2 := by
  have q := (h.below hb).from 1 hn
  rw [if_pos rfl] at q
  have e : n - 1 = (b.drop 1).length := by rw [List.length_drop, ← h.size.1]
  have e0 : (b.drop 1).length = 0 := by have := h.size.2; omega
  rw [e] at q
  have C := rfOpen _ _ _ w' q
  rw [e0] at C
  exact C
theorem hfOpen_more {w w' : World} {A : Option Addr} {n cap : Nat} {b : List UInt8} (h : BytesAt w (.slice A n cap) b) (hn : 1 ≤ n) (hc : cap ≠ 1) (hb : Below w.heap.size w w') :
    Calls Tryd.prog 56 #[.slice (A.map (fun x => x.add 1)) (n - 1) (cap - 1)] w' fun e w2 => e = .returned (.pointer (some ⟨w'.heap.size, 0, none⟩)) ∧ RfS w2 w'.heap.size (A.map (fun x => x.add 1)) (cap - 1) (b.drop 1) ⟨b.drop 1, 0⟩ ∧ Below w'.heap.size w' w2 := by
  have q := (h.below hb).from 1 hn
  rw [if_neg hc] at q
  have e : n - 1 = (b.drop 1).length := by rw [List.length_drop, ← h.size.1]
  rw [e] at q ⊢
  exact rfOpen _ _ _ w' q
theorem far_one {w : World} {A : Option Addr} {n : Nat} {b : List UInt8} (h : BytesAt w (.slice A n 1) b) (hn : 1 ≤ n) : b.drop 1 ≠ [] → ∀ ad, A = some ad → ad.block < w.heap.size := fun hb ad k => by
  have q := h.from 1 hn
  rw [if_pos rfl] at q
  obtain ⟨ad', e', hlt⟩ := q.lt hb
  rw [k] at e'
  injection e' with e'
  subst e'
  exact hlt
theorem far_more {w : World} {A : Option Addr} {n cap : Nat} {b : List UInt8} (h : BytesAt w (.slice A n cap) b) (hn : 1 ≤ n) (hc : cap ≠ 1) : b.drop 1 ≠ [] → ∀ ad, A.map (fun x => x.add 1) = some ad → ad.block < w.heap.size := fun hb ad k => by
  have q := h.from 1 hn
  rw [if_neg hc] at q
  obtain ⟨ad', e', hlt⟩ := q.lt hb
  rw [k] at e'
  injection e' with e'
  subst e'
  exact hlt

set_option maxRecDepth 100000 in
set_option maxHeartbeats 1000000 in
theorem hfTakeHello_any (v : Value) (b : List UInt8) (w : World) (hn : b.length ≤ 9000) (h : BytesAt w v b) :
    Calls Tryd.prog 25 #[v] w fun e w' => e = .returned (.tuple #[Her.val (takeH b), .int .i64 (takeHX b)]) ∧ Below w.heap.size w w' := by
  have CK := fun w1 (b1 : Below w.heap.size w w1) => Lib.hid (hfKindOf_any v b w1 (h.below b1))
  have EX : Hid (takeHX b = if kindB b ≠ 1 then 13 else if endE (ht4 b) ≠ 0 then endE (ht4 b) else if rightH (takeHP b) = true then 0 else 11) := Lib.hid rfl
  have EE : Hid (takeH b = if takeHX b = 0 then takeHP b else Her.zero) := Lib.hid rfl
  obtain ⟨rx, hrx⟩ : ∃ rx, rx = takeHX b := ⟨_, rfl⟩
  obtain ⟨re, hre⟩ : ∃ re : Her, re = takeH b := ⟨_, rfl⟩
  rw [← hrx] at EX EE ⊢
  rw [← hre] at EE ⊢
  by_cases hk : kindB b = 1
  · obtain ⟨c, r, hb, -⟩ := kind_cons hk (by decide)
    have hl : 1 ≤ b.length := by rw [hb]; simp
    have EX2 : Hid (rx = if endE (ht4 b) ≠ 0 then endE (ht4 b) else if rightH (takeHP b) = true then 0 else 11) := Lib.hid (by rw [EX.out, if_neg (by simp [hk])])
    rw [hk] at CK
    obtain ⟨A, cap, rfl, hcap, -⟩ := id h
    have HN := Lib.hid (show (b.drop 1).length ≤ 9000 by rw [List.length_drop]; omega)
    obtain ⟨d, q_d⟩ : ∃ z, z = textO ⟨b.drop 1, 0⟩ 16 := ⟨_, rfl⟩
    obtain ⟨n, q_n⟩ : ∃ z, z = numO (ht1 b) 8 := ⟨_, rfl⟩
    obtain ⟨tx, q_tx⟩ : ∃ z, z = textO (ht2 b) 128 := ⟨_, rfl⟩
    obtain ⟨t, q_t⟩ : ∃ z, z = rawO (ht3 b) 32 := ⟨_, rfl⟩
    obtain ⟨en, hen⟩ : ∃ z, z = readE tx := ⟨_, rfl⟩
    have HTX := Lib.hid (show tx.length ≤ 9000 by rw [q_tx]; exact Nat.le_trans (textO_length _ _) (by decide))
    have hP : takeHP b = ⟨d, n, en, t⟩ := by rw [hen, q_d, q_n, q_tx, q_t]; rfl
    rw [hP] at EX2 EE
    have Yd := Lib.hid q_d
    have Yn := Lib.hid q_n
    have Ytx := Lib.hid q_tx
    have Yt := Lib.hid q_t
    have Yen := Lib.hid hen
    clear hrx hre hk hb EX hP hn q_d q_n q_tx q_t hen
    by_cases hc1 : cap = 1
    · subst hc1
      have CO := fun w1 (b1 : Below w.heap.size w w1) => Lib.hid (hfOpen_one h hl b1)
      have FA := Lib.hid (far_one h hl)
      clear h
      go_enter Tryd.func25, Tryd.ntmps25
      go_wp2_with (refine wpList_alloc_row rfl 34 rfl (Her.enc Her.zero).toArray Her.zero_is ?_)
      intro w1 b1 x1 z1
      obtain ⟨gR, hgR⟩ : ∃ g, g = w.heap.size := ⟨_, rfl⟩
      have M_R := Lib.hid (show w.heap.size ≤ gR from by rw [hgR]; exact Nat.le_refl _)
      have B1 := Lib.hid b1
      rw [← hgR] at x1 ⊢
      have R1 : Hid (Her.At w1 gR Her.zero) := Lib.hid x1
      clear b1 x1 z1 hgR 
      go_wp2_with (first | (with_reducible refine wpList_load_whole Her.isRec rfl _ rfl gR (by with_unfolding_all exact rfl) _ _ (Her.len _) R1.out ?_) | (with_reducible refine wpList_load_rec Ent.isRec rfl _ rfl gR 2 (by with_unfolding_all exact rfl) _ (Ent.len _) (Her.At.part_entry R1.out) ?_))
      refine ((CK w1 B1.out).out).mono ?_
      rintro e2 w2 ⟨rfl, b2⟩
      have R2 : Hid (Her.At w2 gR Her.zero) := Lib.hid (Whole.below R1.out b2 R1.out.lt)
      have B2 := Lib.hid (B1.out.trans (b2.mono B1.out.size))
      clear b2 R1 B1
      go_wp2_with fail
      refine (CO w2 B2.out).out.mono ?_
      rintro e w0 ⟨rfl, hr, hb⟩
      have R0 := Lib.hid (Whole.below R2.out hb R2.out.lt)
      have B0 := Lib.hid (B2.out.trans (hb.mono B2.out.size))
      have RG := Lib.hid R2.out.lt
      have GZ := Lib.hid (show w2.heap.size < w0.heap.size by
        obtain ⟨p, hp, -⟩ := id hr
        exact Whole.lt hp)
      have RD := Lib.hid hr
      obtain ⟨g, hg⟩ : ∃ g, g = w2.heap.size := ⟨_, rfl⟩
      rw [← hg] at RG GZ RD ⊢
      clear hr hb hg R2 B2 CK CO
      go_wp2_with (first | (with_reducible refine wpList_build_rec rfl 34 _ rfl #[] (by with_unfolding_all exact rfl) (Her.enc Her.zero).toArray (by kernel_rfl) ?_) | (refine wpList_alloc_row rfl 34 rfl (Her.enc Her.zero).toArray Her.zero_is ?_))
      intro w1 b1 x1 z1
      obtain ⟨x, hx⟩ : ∃ x, x = w0.heap.size := ⟨_, rfl⟩
      have F1 : Hid (RfX w gR g x 34 (Her.enc Her.zero).toArray (Her.enc Her.zero).toArray A 0 (b.drop 1) w1 ⟨b.drop 1, 0⟩) := Lib.hid {
        ent := by rw [hx]; exact x1
        res := Whole.below R0.out b1 (Whole.lt R0.out)
        rd := RD.out.belowR b1
        low := B0.out.trans (b1.mono B0.out.size)
        rg := RG.out
        gx := by rw [hx]; exact GZ.out
        r0 := M_R.out
        far := FA.out }
      rw [← hx]
      clear b1 x1 z1 R0 B0 RG GZ RD FA hx
      have E1 := Lib.hid F1.out.ent
      go_wp2_with (with_reducible refine wpList_store_whole rfl 34 _ _ rfl x (Her.enc Her.zero).toArray (by with_unfolding_all exact rfl) (by with_unfolding_all exact rfl) _ _ E1.out (Her.size _) rfl (Her.one _) ?_)
      intro w2 g2 x2 z2
      have F0 : Hid (RfX w gR g x 34 (Her.enc Her.zero).toArray (Her.enc ⟨[], 0, Ent.zero, []⟩).toArray A 0 (b.drop 1) w2 ⟨b.drop 1, 0⟩) := Lib.hid (F1.out.whole g2 x2)
      clear g2 x2 z2 E1 F1
      have C := rfText g 16 A 0 (b.drop 1) ⟨b.drop 1, 0⟩ _ F0.out.rd HN.out
      rw [← Yd.out] at C
      have C := Lib.hid C
      go_wp2_with fail
      refine C.out.mono ?_
      rintro e u0 ⟨rfl, hr, hg⟩
      have G0 : Hid (RfX w gR g x 34 (Her.enc Her.zero).toArray (Her.enc ⟨[], 0, Ent.zero, []⟩).toArray A 0 (b.drop 1) u0 (ht1 b)) := Lib.hid (F0.out.call hr hg)
      clear hr hg C F0
      have f0 := G0.out.ent.free 0
      have c0 := Her.At.at_dest (x := ⟨[], 0, Ent.zero, []⟩) G0.out.ent
      have F0 : Hid (RfX w gR g x 34 (Her.enc Her.zero).toArray (Her.enc ⟨d, 0, Ent.zero, []⟩).toArray A 0 (b.drop 1) _ (ht1 b)) := Lib.hid (G0.out.put (Her.At.set_dest (x := ⟨[], 0, Ent.zero, []⟩) G0.out.ent d))
      clear G0
      have C := rfNum g 8 A 0 (b.drop 1) (ht1 b) _ F0.out.rd HN.out (by decide) (by decide)
      rw [← Yn.out] at C
      have C := Lib.hid C
      go_wp2_with fail
      refine C.out.mono ?_
      rintro e u1 ⟨rfl, hr, hg⟩
      have G0 : Hid (RfX w gR g x 34 (Her.enc Her.zero).toArray (Her.enc ⟨d, 0, Ent.zero, []⟩).toArray A 0 (b.drop 1) u1 (ht2 b)) := Lib.hid (F0.out.call hr hg)
      clear hr hg C F0
      have f0 := G0.out.ent.free 1
      have c0 := Her.At.at_nonce (x := ⟨d, 0, Ent.zero, []⟩) G0.out.ent
      have F0 : Hid (RfX w gR g x 34 (Her.enc Her.zero).toArray (Her.enc ⟨d, n, Ent.zero, []⟩).toArray A 0 (b.drop 1) _ (ht2 b)) := Lib.hid (G0.out.put (Her.At.set_nonce (x := ⟨d, 0, Ent.zero, []⟩) G0.out.ent n))
      clear G0
      have C := rfText g 128 A 0 (b.drop 1) (ht2 b) _ F0.out.rd HN.out
      rw [← Ytx.out] at C
      have C := Lib.hid C
      go_wp2_with fail
      refine C.out.mono ?_
      rintro e u2 ⟨rfl, hr, hg⟩
      have G0 : Hid (RfX w gR g x 34 (Her.enc Her.zero).toArray (Her.enc ⟨d, n, Ent.zero, []⟩).toArray A 0 (b.drop 1) u2 (ht3 b)) := Lib.hid (F0.out.call hr hg)
      clear hr hg C F0
      have F0 := G0
      clear G0
      have C := rfRaw g 32 A 0 (b.drop 1) (ht3 b) _ F0.out.rd HN.out
      rw [← Yt.out] at C
      have C := Lib.hid C
      go_wp2_with fail
      refine C.out.mono ?_
      rintro e u3 ⟨rfl, hr, hg⟩
      have G0 : Hid (RfX w gR g x 34 (Her.enc Her.zero).toArray (Her.enc ⟨d, n, Ent.zero, []⟩).toArray A 0 (b.drop 1) u3 (ht4 b)) := Lib.hid (F0.out.call hr hg)
      clear hr hg C F0
      have f0 := G0.out.ent.free 8
      have c0 := Her.At.at_tag (x := ⟨d, n, Ent.zero, []⟩) G0.out.ent
      have F0 : Hid (RfX w gR g x 34 (Her.enc Her.zero).toArray (Her.enc ⟨d, n, Ent.zero, t⟩).toArray A 0 (b.drop 1) _ (ht4 b)) := Lib.hid (G0.out.put (Her.At.set_tag (x := ⟨d, n, Ent.zero, []⟩) G0.out.ent t))
      clear G0
      have C := Lib.hid (rfEnd g A 0 (b.drop 1) (ht4 b) _ F0.out.rd)
      go_wp2_with fail
      refine C.out.mono ?_
      rintro e u5 ⟨rfl, hr, hg⟩
      have G0 := Lib.hid (F0.out.call hr hg)
      clear hr hg C F0
      by_cases hE : endE (ht4 b) = 0
      · have dE : (endE (ht4 b) != 0) = false := by simp [hE]
        have EX1 : Hid (rx = if rightH ⟨d, n, en, t⟩ = true then 0 else 11) := Lib.hid (by have q := EX2.out; rw [if_neg (by simp [hE])] at q; exact q)
        clear EX2 hE
        have E0 : Hid (Whole u5 x 34 (Her.enc ⟨d, n, Ent.zero, t⟩).toArray) := Lib.hid G0.out.ent
        have R0 : Hid (Whole u5 gR 34 (Her.enc Her.zero).toArray) := Lib.hid G0.out.res
        have D0 := Lib.hid G0.out.low
        have RR := Lib.hid (show w.heap.size ≤ gR ∧ gR < x from ⟨G0.out.r0, Nat.lt_trans G0.out.rg G0.out.gx⟩)
        clear G0
        obtain ⟨vt, u6, rt, yt, bt⟩ := conv_str u5 ⟨tx.toArray⟩
        have yt : BytesAt u6 vt tx := by simpa using yt
        obtain ⟨At, capt, hvt, -, -⟩ := yt
        subst hvt
        have E6 := Lib.hid (Whole.below E0.out bt (Whole.lt E0.out))
        have R6 := Lib.hid (Whole.below R0.out bt (Whole.lt R0.out))
        have D6 := Lib.hid (D0.out.trans (bt.mono D0.out.size))
        have C := refRead_any At _ capt tx u6 HTX.out yt
        rw [← Yen.out] at C
        have C := Lib.hid C
        clear bt yt E0 R0 D0
        go_wp2_with fail
        refine C.out.mono ?_
        rintro e u7 ⟨rfl, b7⟩
        have E7 := Lib.hid (Whole.below E6.out b7 (Whole.lt E6.out))
        have R7 := Lib.hid (Whole.below R6.out b7 (Whole.lt R6.out))
        have D7 := Lib.hid (D6.out.trans (b7.mono D6.out.size))
        clear b7 C E6 R6 D6 rt
        go_wp2_with (refine wpList_alloc_row rfl 24 rfl ent0.cells ent_zero ?_)
        intro u8 b8 x8 z8
        have XL := Lib.hid (Whole.lt E7.out)
        obtain ⟨y, hy⟩ : ∃ y, y = u7.heap.size := ⟨_, rfl⟩
        rw [← hy] at x8 XL ⊢
        have N8 := Lib.hid x8
        have E8 := Lib.hid (Whole.below E7.out b8 (Whole.lt E7.out))
        have R8 := Lib.hid (Whole.below R7.out b8 (Whole.lt R7.out))
        have D8 := Lib.hid (D7.out.trans (b8.mono D7.out.size))
        clear b8 x8 z8 hy E7 R7 D7
        go_wp2_with (with_reducible refine wpList_store_whole rfl 24 _ _ rfl y en.cells (by with_unfolding_all exact rfl) (by with_unfolding_all exact rfl) _ _ N8.out (ent_size' _) rfl (Ent.cells_one _) ?_)
        intro u9 g9 x9 z9
        have N9 : Hid (EntAt u9 y en) := Lib.hid x9
        have E9 := Lib.hid (Whole.grown E8.out g9 (fun k => by injection k with k; have := XL.out; omega))
        have R9 := Lib.hid (Whole.grown R8.out g9 (fun k => by injection k with k; have := XL.out; have := RR.out; omega))
        have D9 := Lib.hid (D8.out.grown g9 D8.out.size (fun k hk => by injection hk with hk; have := XL.out; have := RR.out; omega))
        clear g9 x9 z9 N8 E8 R8 D8
        go_wp2_with (first | (with_reducible refine wpList_load_ent rfl _ rfl y (by with_unfolding_all exact rfl) en N9.out ?_) | (with_reducible refine wpList_store_part rfl _ _ rfl x 2 (by with_unfolding_all exact rfl) en.enc (by with_unfolding_all exact rfl) [.string ⟨d.toArray⟩, .int .u64 (n : Int)] Ent.zero.enc [.string ⟨t.toArray⟩] E9.out rfl rfl (by kernel_rfl) en.fits.one ?_))
        intro ua ga xa za
        have Ea : Hid (Her.At ua x ⟨d, n, en, t⟩) := Lib.hid xa
        have Ra := Lib.hid (Whole.grown R9.out ga (fun k => by injection k with k; have := RR.out; omega))
        have Da := Lib.hid (D9.out.grown ga D9.out.size (fun k hk => by injection hk with hk; have := RR.out; omega))
        clear ga xa za N9 E9 R9 D9 XL
        by_cases hX : readX tx = 0
        · have dX : (readX tx != 0) = false := by simp [hX]
          have CR := fun w => Lib.hid (hfRightHello_any ⟨d, n, en, t⟩ w)
          generalize hPP : (⟨d, n, en, t⟩ : Her) = PP at *
          clear hPP hX
          go_wp2_with (first | (with_reducible refine wpList_load_whole Her.isRec rfl _ rfl x (by with_unfolding_all exact rfl) _ _ (Her.len _) Ea.out ?_) | (with_reducible refine wpList_load_whole_w Her.isRec (by kernel_rfl) _ rfl x (by with_unfolding_all exact rfl) _ _ (Her.len _) Ea.out ?_))
          refine (CR ua).out.mono ?_
          rintro e ub ⟨rfl, bb⟩
          have Eb : Hid (Her.At ub x PP) := Lib.hid (Whole.below Ea.out bb (Whole.lt Ea.out))
          have Rb := Lib.hid (Whole.below Ra.out bb (Whole.lt Ra.out))
          have Db := Lib.hid (Da.out.trans (bb.mono Da.out.size))
          clear bb CR Ea Ra Da dX
          cases hR : rightH PP with
          | true =>
            have q := EX1.out
            rw [if_pos hR] at q
            have qe := EE.out
            rw [if_pos q] at qe
            subst q qe
            clear EE EX1 hR
            go_wp2_with (first | (with_reducible refine wpList_load_whole Her.isRec rfl _ rfl x (by with_unfolding_all exact rfl) _ _ (Her.len _) Eb.out ?_) | (with_reducible refine wpList_store_whole rfl 34 _ _ rfl gR (Her.enc re).toArray (by with_unfolding_all exact rfl) (by with_unfolding_all exact rfl) _ _ Rb.out (Her.size _) rfl (Her.one _) ?_))
            intro uc gc xc zc
            have Rc : Hid (Her.At uc gR re) := Lib.hid xc
            have Dc := Lib.hid (Db.out.grown gc Db.out.size (fun k hk => by injection hk with hk; have := RR.out; omega))
            clear gc xc zc Rb Db Eb
            go_wp2
            exact bodyPost_ret (results_rec_tmp Her.isRec rfl _ _ _ _ _ rfl rfl Rc.out) rfl ⟨rfl, Dc.out⟩
          | false =>
            have q := EX1.out
            rw [if_neg (by rw [hR]; decide)] at q
            have qe := EE.out
            rw [if_neg (by rw [q]; decide)] at qe
            subst q qe
            clear EE EX1 hR Eb
            go_wp2_with (first | (with_reducible refine wpList_build_rec rfl 34 _ rfl #[] (by with_unfolding_all exact rfl) (Her.enc Her.zero).toArray (by kernel_rfl) ?_) | (with_reducible refine wpList_store_whole rfl 34 _ _ rfl gR (Her.enc Her.zero).toArray (by with_unfolding_all exact rfl) (by with_unfolding_all exact rfl) _ _ Rb.out (Her.size _) rfl (Her.one _) ?_))
            intro uc gc xc zc
            have Rc : Hid (Her.At uc gR Her.zero) := Lib.hid xc
            have Dc := Lib.hid (Db.out.grown gc Db.out.size (fun k hk => by injection hk with hk; have := RR.out; omega))
            clear gc xc zc Rb Db
            go_wp2
            exact bodyPost_ret (results_rec_tmp Her.isRec rfl _ _ _ _ _ rfl rfl Rc.out) rfl ⟨rfl, Dc.out⟩
        · have dX : (readX tx != 0) = true := by simpa using hX
          have hen : en = ent0 := by rw [Yen.out]; exact read_none hX
          have q := EX1.out
          rw [if_neg (by rw [rightH_none (x := ⟨d, n, en, t⟩) hen]; decide)] at q
          have qe := EE.out
          rw [if_neg (by rw [q]; decide)] at qe
          subst q qe
          clear EE EX1 hX hen Ea
          go_wp2_with (first | (with_reducible refine wpList_build_rec rfl 34 _ rfl #[] (by with_unfolding_all exact rfl) (Her.enc Her.zero).toArray (by kernel_rfl) ?_) | (with_reducible refine wpList_store_whole rfl 34 _ _ rfl gR (Her.enc Her.zero).toArray (by with_unfolding_all exact rfl) (by with_unfolding_all exact rfl) _ _ Ra.out (Her.size _) rfl (Her.one _) ?_))
          intro uc gc xc zc
          have Rc : Hid (Her.At uc gR Her.zero) := Lib.hid xc
          have Dc := Lib.hid (Da.out.grown gc Da.out.size (fun k hk => by injection hk with hk; have := RR.out; omega))
          clear gc xc zc Ra Da
          go_wp2
          exact bodyPost_ret (results_rec_tmp Her.isRec rfl _ _ _ _ _ rfl rfl Rc.out) rfl ⟨rfl, Dc.out⟩
      · have dE : (endE (ht4 b) != 0) = true := by simp [hE]
        have q := EX2.out
        rw [if_pos hE] at q
        have qe := EE.out
        rw [if_neg (by rw [q]; exact hE)] at qe
        subst qe
        have C := Lib.hid (rfEnd g A 0 (b.drop 1) (ht4 b) _ G0.out.rd)
        go_wp2_with (with_reducible refine wpList_build_rec rfl 34 _ rfl #[] (by with_unfolding_all exact rfl) (Her.enc Her.zero).toArray (by kernel_rfl) ?_)
        refine C.out.mono ?_
        rintro e u6 ⟨rfl, hr, hg⟩
        have G6 := Lib.hid (G0.out.call hr hg)
        clear hr hg C G0
        have R0 : Hid (Whole u6 gR 34 (Her.enc Her.zero).toArray) := Lib.hid G6.out.res
        have D0 := Lib.hid G6.out.low
        have RR := Lib.hid G6.out.r0
        clear G6
        generalize endE (ht4 b) = ee at *
        subst q
        clear EE EX2 hE
        go_wp2_with (with_reducible refine wpList_store_whole rfl 34 _ _ rfl gR (Her.enc Her.zero).toArray (by with_unfolding_all exact rfl) (by with_unfolding_all exact rfl) _ _ R0.out (Her.size _) rfl (Her.one _) ?_)
        intro uc gc xc zc
        have Rc : Hid (Her.At uc gR Her.zero) := Lib.hid xc
        have Dc := Lib.hid (D0.out.grown gc D0.out.size (fun k hk => by injection hk with hk; have := RR.out; omega))
        clear gc xc zc R0 D0
        go_wp2
        exact bodyPost_ret (results_rec_tmp Her.isRec rfl _ _ _ _ _ rfl rfl Rc.out) rfl ⟨rfl, Dc.out⟩
    · have CO := fun w1 (b1 : Below w.heap.size w w1) => Lib.hid (hfOpen_more h hl hc1 b1)
      have FA := Lib.hid (far_more h hl hc1)
      clear h
      go_enter Tryd.func25, Tryd.ntmps25
      go_wp2_with (refine wpList_alloc_row rfl 34 rfl (Her.enc Her.zero).toArray Her.zero_is ?_)
      intro w1 b1 x1 z1
      obtain ⟨gR, hgR⟩ : ∃ g, g = w.heap.size := ⟨_, rfl⟩
      have M_R := Lib.hid (show w.heap.size ≤ gR from by rw [hgR]; exact Nat.le_refl _)
      have B1 := Lib.hid b1
      rw [← hgR] at x1 ⊢
      have R1 : Hid (Her.At w1 gR Her.zero) := Lib.hid x1
      clear b1 x1 z1 hgR 
      go_wp2_with (first | (with_reducible refine wpList_load_whole Her.isRec rfl _ rfl gR (by with_unfolding_all exact rfl) _ _ (Her.len _) R1.out ?_) | (with_reducible refine wpList_load_rec Ent.isRec rfl _ rfl gR 2 (by with_unfolding_all exact rfl) _ (Ent.len _) (Her.At.part_entry R1.out) ?_))
      refine ((CK w1 B1.out).out).mono ?_
      rintro e2 w2 ⟨rfl, b2⟩
      have R2 : Hid (Her.At w2 gR Her.zero) := Lib.hid (Whole.below R1.out b2 R1.out.lt)
      have B2 := Lib.hid (B1.out.trans (b2.mono B1.out.size))
      clear b2 R1 B1
      go_wp2_with fail
      refine (CO w2 B2.out).out.mono ?_
      rintro e w0 ⟨rfl, hr, hb⟩
      have R0 := Lib.hid (Whole.below R2.out hb R2.out.lt)
      have B0 := Lib.hid (B2.out.trans (hb.mono B2.out.size))
      have RG := Lib.hid R2.out.lt
      have GZ := Lib.hid (show w2.heap.size < w0.heap.size by
        obtain ⟨p, hp, -⟩ := id hr
        exact Whole.lt hp)
      have RD := Lib.hid hr
      obtain ⟨g, hg⟩ : ∃ g, g = w2.heap.size := ⟨_, rfl⟩
      rw [← hg] at RG GZ RD ⊢
      clear hr hb hg R2 B2 CK CO
      go_wp2_with (first | (with_reducible refine wpList_build_rec rfl 34 _ rfl #[] (by with_unfolding_all exact rfl) (Her.enc Her.zero).toArray (by kernel_rfl) ?_) | (refine wpList_alloc_row rfl 34 rfl (Her.enc Her.zero).toArray Her.zero_is ?_))
      intro w1 b1 x1 z1
      obtain ⟨x, hx⟩ : ∃ x, x = w0.heap.size := ⟨_, rfl⟩
      have F1 : Hid (RfX w gR g x 34 (Her.enc Her.zero).toArray (Her.enc Her.zero).toArray (A.map (fun x => x.add 1)) (cap - 1) (b.drop 1) w1 ⟨b.drop 1, 0⟩) := Lib.hid {
        ent := by rw [hx]; exact x1
        res := Whole.below R0.out b1 (Whole.lt R0.out)
        rd := RD.out.belowR b1
        low := B0.out.trans (b1.mono B0.out.size)
        rg := RG.out
        gx := by rw [hx]; exact GZ.out
        r0 := M_R.out
        far := FA.out }
      rw [← hx]
      clear b1 x1 z1 R0 B0 RG GZ RD FA hx
      have E1 := Lib.hid F1.out.ent
      go_wp2_with (with_reducible refine wpList_store_whole rfl 34 _ _ rfl x (Her.enc Her.zero).toArray (by with_unfolding_all exact rfl) (by with_unfolding_all exact rfl) _ _ E1.out (Her.size _) rfl (Her.one _) ?_)
      intro w2 g2 x2 z2
      have F0 : Hid (RfX w gR g x 34 (Her.enc Her.zero).toArray (Her.enc ⟨[], 0, Ent.zero, []⟩).toArray (A.map (fun x => x.add 1)) (cap - 1) (b.drop 1) w2 ⟨b.drop 1, 0⟩) := Lib.hid (F1.out.whole g2 x2)
      clear g2 x2 z2 E1 F1
      have C := rfText g 16 (A.map (fun x => x.add 1)) (cap - 1) (b.drop 1) ⟨b.drop 1, 0⟩ _ F0.out.rd HN.out
      rw [← Yd.out] at C
      have C := Lib.hid C
      go_wp2_with fail
      refine C.out.mono ?_
      rintro e u0 ⟨rfl, hr, hg⟩
      have G0 : Hid (RfX w gR g x 34 (Her.enc Her.zero).toArray (Her.enc ⟨[], 0, Ent.zero, []⟩).toArray (A.map (fun x => x.add 1)) (cap - 1) (b.drop 1) u0 (ht1 b)) := Lib.hid (F0.out.call hr hg)
      clear hr hg C F0
      have f0 := G0.out.ent.free 0
      have c0 := Her.At.at_dest (x := ⟨[], 0, Ent.zero, []⟩) G0.out.ent
      have F0 : Hid (RfX w gR g x 34 (Her.enc Her.zero).toArray (Her.enc ⟨d, 0, Ent.zero, []⟩).toArray (A.map (fun x => x.add 1)) (cap - 1) (b.drop 1) _ (ht1 b)) := Lib.hid (G0.out.put (Her.At.set_dest (x := ⟨[], 0, Ent.zero, []⟩) G0.out.ent d))
      clear G0
      have C := rfNum g 8 (A.map (fun x => x.add 1)) (cap - 1) (b.drop 1) (ht1 b) _ F0.out.rd HN.out (by decide) (by decide)
      rw [← Yn.out] at C
      have C := Lib.hid C
      go_wp2_with fail
      refine C.out.mono ?_
      rintro e u1 ⟨rfl, hr, hg⟩
      have G0 : Hid (RfX w gR g x 34 (Her.enc Her.zero).toArray (Her.enc ⟨d, 0, Ent.zero, []⟩).toArray (A.map (fun x => x.add 1)) (cap - 1) (b.drop 1) u1 (ht2 b)) := Lib.hid (F0.out.call hr hg)
      clear hr hg C F0
      have f0 := G0.out.ent.free 1
      have c0 := Her.At.at_nonce (x := ⟨d, 0, Ent.zero, []⟩) G0.out.ent
      have F0 : Hid (RfX w gR g x 34 (Her.enc Her.zero).toArray (Her.enc ⟨d, n, Ent.zero, []⟩).toArray (A.map (fun x => x.add 1)) (cap - 1) (b.drop 1) _ (ht2 b)) := Lib.hid (G0.out.put (Her.At.set_nonce (x := ⟨d, 0, Ent.zero, []⟩) G0.out.ent n))
      clear G0
      have C := rfText g 128 (A.map (fun x => x.add 1)) (cap - 1) (b.drop 1) (ht2 b) _ F0.out.rd HN.out
      rw [← Ytx.out] at C
      have C := Lib.hid C
      go_wp2_with fail
      refine C.out.mono ?_
      rintro e u2 ⟨rfl, hr, hg⟩
      have G0 : Hid (RfX w gR g x 34 (Her.enc Her.zero).toArray (Her.enc ⟨d, n, Ent.zero, []⟩).toArray (A.map (fun x => x.add 1)) (cap - 1) (b.drop 1) u2 (ht3 b)) := Lib.hid (F0.out.call hr hg)
      clear hr hg C F0
      have F0 := G0
      clear G0
      have C := rfRaw g 32 (A.map (fun x => x.add 1)) (cap - 1) (b.drop 1) (ht3 b) _ F0.out.rd HN.out
      rw [← Yt.out] at C
      have C := Lib.hid C
      go_wp2_with fail
      refine C.out.mono ?_
      rintro e u3 ⟨rfl, hr, hg⟩
      have G0 : Hid (RfX w gR g x 34 (Her.enc Her.zero).toArray (Her.enc ⟨d, n, Ent.zero, []⟩).toArray (A.map (fun x => x.add 1)) (cap - 1) (b.drop 1) u3 (ht4 b)) := Lib.hid (F0.out.call hr hg)
      clear hr hg C F0
      have f0 := G0.out.ent.free 8
      have c0 := Her.At.at_tag (x := ⟨d, n, Ent.zero, []⟩) G0.out.ent
      have F0 : Hid (RfX w gR g x 34 (Her.enc Her.zero).toArray (Her.enc ⟨d, n, Ent.zero, t⟩).toArray (A.map (fun x => x.add 1)) (cap - 1) (b.drop 1) _ (ht4 b)) := Lib.hid (G0.out.put (Her.At.set_tag (x := ⟨d, n, Ent.zero, []⟩) G0.out.ent t))
      clear G0
      have C := Lib.hid (rfEnd g (A.map (fun x => x.add 1)) (cap - 1) (b.drop 1) (ht4 b) _ F0.out.rd)
      go_wp2_with fail
      refine C.out.mono ?_
      rintro e u5 ⟨rfl, hr, hg⟩
      have G0 := Lib.hid (F0.out.call hr hg)
      clear hr hg C F0
      by_cases hE : endE (ht4 b) = 0
      · have dE : (endE (ht4 b) != 0) = false := by simp [hE]
        have EX1 : Hid (rx = if rightH ⟨d, n, en, t⟩ = true then 0 else 11) := Lib.hid (by have q := EX2.out; rw [if_neg (by simp [hE])] at q; exact q)
        clear EX2 hE
        have E0 : Hid (Whole u5 x 34 (Her.enc ⟨d, n, Ent.zero, t⟩).toArray) := Lib.hid G0.out.ent
        have R0 : Hid (Whole u5 gR 34 (Her.enc Her.zero).toArray) := Lib.hid G0.out.res
        have D0 := Lib.hid G0.out.low
        have RR := Lib.hid (show w.heap.size ≤ gR ∧ gR < x from ⟨G0.out.r0, Nat.lt_trans G0.out.rg G0.out.gx⟩)
        clear G0
        obtain ⟨vt, u6, rt, yt, bt⟩ := conv_str u5 ⟨tx.toArray⟩
        have yt : BytesAt u6 vt tx := by simpa using yt
        obtain ⟨At, capt, hvt, -, -⟩ := yt
        subst hvt
        have E6 := Lib.hid (Whole.below E0.out bt (Whole.lt E0.out))
        have R6 := Lib.hid (Whole.below R0.out bt (Whole.lt R0.out))
        have D6 := Lib.hid (D0.out.trans (bt.mono D0.out.size))
        have C := refRead_any At _ capt tx u6 HTX.out yt
        rw [← Yen.out] at C
        have C := Lib.hid C
        clear bt yt E0 R0 D0
        go_wp2_with fail
        refine C.out.mono ?_
        rintro e u7 ⟨rfl, b7⟩
        have E7 := Lib.hid (Whole.below E6.out b7 (Whole.lt E6.out))
        have R7 := Lib.hid (Whole.below R6.out b7 (Whole.lt R6.out))
        have D7 := Lib.hid (D6.out.trans (b7.mono D6.out.size))
        clear b7 C E6 R6 D6 rt
        go_wp2_with (refine wpList_alloc_row rfl 24 rfl ent0.cells ent_zero ?_)
        intro u8 b8 x8 z8
        have XL := Lib.hid (Whole.lt E7.out)
        obtain ⟨y, hy⟩ : ∃ y, y = u7.heap.size := ⟨_, rfl⟩
        rw [← hy] at x8 XL ⊢
        have N8 := Lib.hid x8
        have E8 := Lib.hid (Whole.below E7.out b8 (Whole.lt E7.out))
        have R8 := Lib.hid (Whole.below R7.out b8 (Whole.lt R7.out))
        have D8 := Lib.hid (D7.out.trans (b8.mono D7.out.size))
        clear b8 x8 z8 hy E7 R7 D7
        go_wp2_with (with_reducible refine wpList_store_whole rfl 24 _ _ rfl y en.cells (by with_unfolding_all exact rfl) (by with_unfolding_all exact rfl) _ _ N8.out (ent_size' _) rfl (Ent.cells_one _) ?_)
        intro u9 g9 x9 z9
        have N9 : Hid (EntAt u9 y en) := Lib.hid x9
        have E9 := Lib.hid (Whole.grown E8.out g9 (fun k => by injection k with k; have := XL.out; omega))
        have R9 := Lib.hid (Whole.grown R8.out g9 (fun k => by injection k with k; have := XL.out; have := RR.out; omega))
        have D9 := Lib.hid (D8.out.grown g9 D8.out.size (fun k hk => by injection hk with hk; have := XL.out; have := RR.out; omega))
        clear g9 x9 z9 N8 E8 R8 D8
        go_wp2_with (first | (with_reducible refine wpList_load_ent rfl _ rfl y (by with_unfolding_all exact rfl) en N9.out ?_) | (with_reducible refine wpList_store_part rfl _ _ rfl x 2 (by with_unfolding_all exact rfl) en.enc (by with_unfolding_all exact rfl) [.string ⟨d.toArray⟩, .int .u64 (n : Int)] Ent.zero.enc [.string ⟨t.toArray⟩] E9.out rfl rfl (by kernel_rfl) en.fits.one ?_))
        intro ua ga xa za
        have Ea : Hid (Her.At ua x ⟨d, n, en, t⟩) := Lib.hid xa
        have Ra := Lib.hid (Whole.grown R9.out ga (fun k => by injection k with k; have := RR.out; omega))
        have Da := Lib.hid (D9.out.grown ga D9.out.size (fun k hk => by injection hk with hk; have := RR.out; omega))
        clear ga xa za N9 E9 R9 D9 XL
        by_cases hX : readX tx = 0
        · have dX : (readX tx != 0) = false := by simp [hX]
          have CR := fun w => Lib.hid (hfRightHello_any ⟨d, n, en, t⟩ w)
          generalize hPP : (⟨d, n, en, t⟩ : Her) = PP at *
          clear hPP hX
          go_wp2_with (first | (with_reducible refine wpList_load_whole Her.isRec rfl _ rfl x (by with_unfolding_all exact rfl) _ _ (Her.len _) Ea.out ?_) | (with_reducible refine wpList_load_whole_w Her.isRec (by kernel_rfl) _ rfl x (by with_unfolding_all exact rfl) _ _ (Her.len _) Ea.out ?_))
          refine (CR ua).out.mono ?_
          rintro e ub ⟨rfl, bb⟩
          have Eb : Hid (Her.At ub x PP) := Lib.hid (Whole.below Ea.out bb (Whole.lt Ea.out))
          have Rb := Lib.hid (Whole.below Ra.out bb (Whole.lt Ra.out))
          have Db := Lib.hid (Da.out.trans (bb.mono Da.out.size))
          clear bb CR Ea Ra Da dX
          cases hR : rightH PP with
          | true =>
            have q := EX1.out
            rw [if_pos hR] at q
            have qe := EE.out
            rw [if_pos q] at qe
            subst q qe
            clear EE EX1 hR
            go_wp2_with (first | (with_reducible refine wpList_load_whole Her.isRec rfl _ rfl x (by with_unfolding_all exact rfl) _ _ (Her.len _) Eb.out ?_) | (with_reducible refine wpList_store_whole rfl 34 _ _ rfl gR (Her.enc re).toArray (by with_unfolding_all exact rfl) (by with_unfolding_all exact rfl) _ _ Rb.out (Her.size _) rfl (Her.one _) ?_))
            intro uc gc xc zc
            have Rc : Hid (Her.At uc gR re) := Lib.hid xc
            have Dc := Lib.hid (Db.out.grown gc Db.out.size (fun k hk => by injection hk with hk; have := RR.out; omega))
            clear gc xc zc Rb Db Eb
            go_wp2
            exact bodyPost_ret (results_rec_tmp Her.isRec rfl _ _ _ _ _ rfl rfl Rc.out) rfl ⟨rfl, Dc.out⟩
          | false =>
            have q := EX1.out
            rw [if_neg (by rw [hR]; decide)] at q
            have qe := EE.out
            rw [if_neg (by rw [q]; decide)] at qe
            subst q qe
            clear EE EX1 hR Eb
            go_wp2_with (first | (with_reducible refine wpList_build_rec rfl 34 _ rfl #[] (by with_unfolding_all exact rfl) (Her.enc Her.zero).toArray (by kernel_rfl) ?_) | (with_reducible refine wpList_store_whole rfl 34 _ _ rfl gR (Her.enc Her.zero).toArray (by with_unfolding_all exact rfl) (by with_unfolding_all exact rfl) _ _ Rb.out (Her.size _) rfl (Her.one _) ?_))
            intro uc gc xc zc
            have Rc : Hid (Her.At uc gR Her.zero) := Lib.hid xc
            have Dc := Lib.hid (Db.out.grown gc Db.out.size (fun k hk => by injection hk with hk; have := RR.out; omega))
            clear gc xc zc Rb Db
            go_wp2
            exact bodyPost_ret (results_rec_tmp Her.isRec rfl _ _ _ _ _ rfl rfl Rc.out) rfl ⟨rfl, Dc.out⟩
        · have dX : (readX tx != 0) = true := by simpa using hX
          have hen : en = ent0 := by rw [Yen.out]; exact read_none hX
          have q := EX1.out
          rw [if_neg (by rw [rightH_none (x := ⟨d, n, en, t⟩) hen]; decide)] at q
          have qe := EE.out
          rw [if_neg (by rw [q]; decide)] at qe
          subst q qe
          clear EE EX1 hX hen Ea
          go_wp2_with (first | (with_reducible refine wpList_build_rec rfl 34 _ rfl #[] (by with_unfolding_all exact rfl) (Her.enc Her.zero).toArray (by kernel_rfl) ?_) | (with_reducible refine wpList_store_whole rfl 34 _ _ rfl gR (Her.enc Her.zero).toArray (by with_unfolding_all exact rfl) (by with_unfolding_all exact rfl) _ _ Ra.out (Her.size _) rfl (Her.one _) ?_))
          intro uc gc xc zc
          have Rc : Hid (Her.At uc gR Her.zero) := Lib.hid xc
          have Dc := Lib.hid (Da.out.grown gc Da.out.size (fun k hk => by injection hk with hk; have := RR.out; omega))
          clear gc xc zc Ra Da
          go_wp2
          exact bodyPost_ret (results_rec_tmp Her.isRec rfl _ _ _ _ _ rfl rfl Rc.out) rfl ⟨rfl, Dc.out⟩
      · have dE : (endE (ht4 b) != 0) = true := by simp [hE]
        have q := EX2.out
        rw [if_pos hE] at q
        have qe := EE.out
        rw [if_neg (by rw [q]; exact hE)] at qe
        subst qe
        have C := Lib.hid (rfEnd g (A.map (fun x => x.add 1)) (cap - 1) (b.drop 1) (ht4 b) _ G0.out.rd)
        go_wp2_with (with_reducible refine wpList_build_rec rfl 34 _ rfl #[] (by with_unfolding_all exact rfl) (Her.enc Her.zero).toArray (by kernel_rfl) ?_)
        refine C.out.mono ?_
        rintro e u6 ⟨rfl, hr, hg⟩
        have G6 := Lib.hid (G0.out.call hr hg)
        clear hr hg C G0
        have R0 : Hid (Whole u6 gR 34 (Her.enc Her.zero).toArray) := Lib.hid G6.out.res
        have D0 := Lib.hid G6.out.low
        have RR := Lib.hid G6.out.r0
        clear G6
        generalize endE (ht4 b) = ee at *
        subst q
        clear EE EX2 hE
        go_wp2_with (with_reducible refine wpList_store_whole rfl 34 _ _ rfl gR (Her.enc Her.zero).toArray (by with_unfolding_all exact rfl) (by with_unfolding_all exact rfl) _ _ R0.out (Her.size _) rfl (Her.one _) ?_)
        intro uc gc xc zc
        have Rc : Hid (Her.At uc gR Her.zero) := Lib.hid xc
        have Dc := Lib.hid (D0.out.grown gc D0.out.size (fun k hk => by injection hk with hk; have := RR.out; omega))
        clear gc xc zc R0 D0
        go_wp2
        exact bodyPost_ret (results_rec_tmp Her.isRec rfl _ _ _ _ _ rfl rfl Rc.out) rfl ⟨rfl, Dc.out⟩
  · have q := EX.out
    rw [if_pos hk] at q
    have qe := EE.out
    rw [if_neg (by rw [q]; decide)] at qe
    have dk : (kindB b != 1) = true := by simpa using hk
    obtain ⟨A, cap, rfl, -, -⟩ := h
    generalize kindB b = kb at *
    subst q qe
    clear EE EX hk hrx hre hn
    go_enter Tryd.func25, Tryd.ntmps25
    go_wp2_with (refine wpList_alloc_row rfl 34 rfl (Her.enc Her.zero).toArray Her.zero_is ?_)
    intro w1 b1 x1 z1
    obtain ⟨gR, hgR⟩ : ∃ g, g = w.heap.size := ⟨_, rfl⟩
    have M_R := Lib.hid (show w.heap.size ≤ gR from by rw [hgR]; exact Nat.le_refl _)
    have B1 := Lib.hid b1
    rw [← hgR] at x1 ⊢
    have R1 : Hid (Her.At w1 gR Her.zero) := Lib.hid x1
    clear b1 x1 z1 hgR 
    go_wp2_with (first | (with_reducible refine wpList_load_whole Her.isRec rfl _ rfl gR (by with_unfolding_all exact rfl) _ _ (Her.len _) R1.out ?_) | (with_reducible refine wpList_load_rec Ent.isRec rfl _ rfl gR 2 (by with_unfolding_all exact rfl) _ (Ent.len _) (Her.At.part_entry R1.out) ?_))
    refine ((CK w1 B1.out).out).mono ?_
    rintro e2 w2 ⟨rfl, b2⟩
    have R2 : Hid (Her.At w2 gR Her.zero) := Lib.hid (Whole.below R1.out b2 R1.out.lt)
    have B2 := Lib.hid (B1.out.trans (b2.mono B1.out.size))
    clear b2 R1 B1
    go_wp2_with (first | (with_reducible refine wpList_load_whole Her.isRec rfl _ rfl gR (by with_unfolding_all exact rfl) _ _ (Her.len _) R2.out ?_) | (with_reducible refine wpList_load_rec Ent.isRec rfl _ rfl gR 2 (by with_unfolding_all exact rfl) _ (Ent.len _) (Her.At.part_entry R2.out) ?_) | (with_reducible refine wpList_store_whole rfl 34 _ _ rfl gR (Her.enc Her.zero).toArray (by with_unfolding_all exact rfl) (by with_unfolding_all exact rfl) _ _ R2.out (Her.size _) rfl (Her.one _) ?_) | (with_reducible refine wpList_build_rec rfl 34 _ rfl #[] (by with_unfolding_all exact rfl) (Her.enc Her.zero).toArray (by kernel_rfl) ?_))
    intro w3 q3 x3 z3
    have R3 : Hid (Her.At w3 gR Her.zero) := Lib.hid x3
    have B3 := Lib.hid (B2.out.grown q3 B2.out.size (fun k hk => by injection hk with hk; have := M_R.out; omega))
    clear q3 x3 z3 R2 B2
    go_wp2
    exact bodyPost_ret (results_rec_tmp Her.isRec rfl _ _ _ _ _ rfl rfl R3.out) rfl ⟨rfl, B3.out⟩

set_option maxRecDepth 100000 in
set_option maxHeartbeats 1000000 in
theorem hfTakeWelcome_any (v : Value) (b : List UInt8) (w : World) (hn : b.length ≤ 9000) (h : BytesAt w v b) :
    Calls Tryd.prog 27 #[v] w fun e w' => e = .returned (.tuple #[Wer.val (takeW b), .int .i64 (takeWX b)]) ∧ Below w.heap.size w w' := by
  have CK := fun w1 (b1 : Below w.heap.size w w1) => Lib.hid (hfKindOf_any v b w1 (h.below b1))
  have EX : Hid (takeWX b = if kindB b ≠ 2 then 13 else if endE (wt4 b) ≠ 0 then endE (wt4 b) else if rightW (takeWP b) = true then 0 else 11) := Lib.hid rfl
  have EE : Hid (takeW b = if takeWX b = 0 then takeWP b else Wer.zero) := Lib.hid rfl
  obtain ⟨rx, hrx⟩ : ∃ rx, rx = takeWX b := ⟨_, rfl⟩
  obtain ⟨re, hre⟩ : ∃ re : Wer, re = takeW b := ⟨_, rfl⟩
  rw [← hrx] at EX EE ⊢
  rw [← hre] at EE ⊢
  by_cases hk : kindB b = 2
  · obtain ⟨c, r, hb, -⟩ := kind_cons hk (by decide)
    have hl : 1 ≤ b.length := by rw [hb]; simp
    have EX2 : Hid (rx = if endE (wt4 b) ≠ 0 then endE (wt4 b) else if rightW (takeWP b) = true then 0 else 11) := Lib.hid (by rw [EX.out, if_neg (by simp [hk])])
    rw [hk] at CK
    obtain ⟨A, cap, rfl, hcap, -⟩ := id h
    have HN := Lib.hid (show (b.drop 1).length ≤ 9000 by rw [List.length_drop]; omega)
    obtain ⟨m, q_m⟩ : ∃ z, z = numO ⟨b.drop 1, 0⟩ 8 := ⟨_, rfl⟩
    obtain ⟨n, q_n⟩ : ∃ z, z = numO (wt1 b) 8 := ⟨_, rfl⟩
    obtain ⟨tx, q_tx⟩ : ∃ z, z = textO (wt2 b) 128 := ⟨_, rfl⟩
    obtain ⟨t, q_t⟩ : ∃ z, z = rawO (wt3 b) 32 := ⟨_, rfl⟩
    obtain ⟨en, hen⟩ : ∃ z, z = readE tx := ⟨_, rfl⟩
    have HTX := Lib.hid (show tx.length ≤ 9000 by rw [q_tx]; exact Nat.le_trans (textO_length _ _) (by decide))
    have hP : takeWP b = ⟨m, n, en, t⟩ := by rw [hen, q_m, q_n, q_tx, q_t]; rfl
    rw [hP] at EX2 EE
    have Ym := Lib.hid q_m
    have Yn := Lib.hid q_n
    have Ytx := Lib.hid q_tx
    have Yt := Lib.hid q_t
    have Yen := Lib.hid hen
    clear hrx hre hk hb EX hP hn q_m q_n q_tx q_t hen
    by_cases hc1 : cap = 1
    · subst hc1
      have CO := fun w1 (b1 : Below w.heap.size w w1) => Lib.hid (hfOpen_one h hl b1)
      have FA := Lib.hid (far_one h hl)
      clear h
      go_enter Tryd.func27, Tryd.ntmps27
      go_wp2_with (refine wpList_alloc_row rfl 36 rfl (Wer.enc Wer.zero).toArray Wer.zero_is ?_)
      intro w1 b1 x1 z1
      obtain ⟨gR, hgR⟩ : ∃ g, g = w.heap.size := ⟨_, rfl⟩
      have M_R := Lib.hid (show w.heap.size ≤ gR from by rw [hgR]; exact Nat.le_refl _)
      have B1 := Lib.hid b1
      rw [← hgR] at x1 ⊢
      have R1 : Hid (Wer.At w1 gR Wer.zero) := Lib.hid x1
      clear b1 x1 z1 hgR 
      go_wp2_with (first | (with_reducible refine wpList_load_whole Wer.isRec rfl _ rfl gR (by with_unfolding_all exact rfl) _ _ (Wer.len _) R1.out ?_) | (with_reducible refine wpList_load_rec Ent.isRec rfl _ rfl gR 2 (by with_unfolding_all exact rfl) _ (Ent.len _) (Wer.At.part_entry R1.out) ?_))
      refine ((CK w1 B1.out).out).mono ?_
      rintro e2 w2 ⟨rfl, b2⟩
      have R2 : Hid (Wer.At w2 gR Wer.zero) := Lib.hid (Whole.below R1.out b2 R1.out.lt)
      have B2 := Lib.hid (B1.out.trans (b2.mono B1.out.size))
      clear b2 R1 B1
      go_wp2_with fail
      refine (CO w2 B2.out).out.mono ?_
      rintro e w0 ⟨rfl, hr, hb⟩
      have R0 := Lib.hid (Whole.below R2.out hb R2.out.lt)
      have B0 := Lib.hid (B2.out.trans (hb.mono B2.out.size))
      have RG := Lib.hid R2.out.lt
      have GZ := Lib.hid (show w2.heap.size < w0.heap.size by
        obtain ⟨p, hp, -⟩ := id hr
        exact Whole.lt hp)
      have RD := Lib.hid hr
      obtain ⟨g, hg⟩ : ∃ g, g = w2.heap.size := ⟨_, rfl⟩
      rw [← hg] at RG GZ RD ⊢
      clear hr hb hg R2 B2 CK CO
      go_wp2_with (first | (with_reducible refine wpList_build_rec rfl 36 _ rfl #[] (by with_unfolding_all exact rfl) (Wer.enc Wer.zero).toArray (by kernel_rfl) ?_) | (refine wpList_alloc_row rfl 36 rfl (Wer.enc Wer.zero).toArray Wer.zero_is ?_))
      intro w1 b1 x1 z1
      obtain ⟨x, hx⟩ : ∃ x, x = w0.heap.size := ⟨_, rfl⟩
      have F1 : Hid (RfX w gR g x 36 (Wer.enc Wer.zero).toArray (Wer.enc Wer.zero).toArray A 0 (b.drop 1) w1 ⟨b.drop 1, 0⟩) := Lib.hid {
        ent := by rw [hx]; exact x1
        res := Whole.below R0.out b1 (Whole.lt R0.out)
        rd := RD.out.belowR b1
        low := B0.out.trans (b1.mono B0.out.size)
        rg := RG.out
        gx := by rw [hx]; exact GZ.out
        r0 := M_R.out
        far := FA.out }
      rw [← hx]
      clear b1 x1 z1 R0 B0 RG GZ RD FA hx
      have E1 := Lib.hid F1.out.ent
      go_wp2_with (with_reducible refine wpList_store_whole rfl 36 _ _ rfl x (Wer.enc Wer.zero).toArray (by with_unfolding_all exact rfl) (by with_unfolding_all exact rfl) _ _ E1.out (Wer.size _) rfl (Wer.one _) ?_)
      intro w2 g2 x2 z2
      have F0 : Hid (RfX w gR g x 36 (Wer.enc Wer.zero).toArray (Wer.enc ⟨0, 0, Ent.zero, []⟩).toArray A 0 (b.drop 1) w2 ⟨b.drop 1, 0⟩) := Lib.hid (F1.out.whole g2 x2)
      clear g2 x2 z2 E1 F1
      have C := rfNum g 8 A 0 (b.drop 1) ⟨b.drop 1, 0⟩ _ F0.out.rd HN.out (by decide) (by decide)
      rw [← Ym.out] at C
      have C := Lib.hid C
      go_wp2_with fail
      refine C.out.mono ?_
      rintro e u0 ⟨rfl, hr, hg⟩
      have G0 : Hid (RfX w gR g x 36 (Wer.enc Wer.zero).toArray (Wer.enc ⟨0, 0, Ent.zero, []⟩).toArray A 0 (b.drop 1) u0 (wt1 b)) := Lib.hid (F0.out.call hr hg)
      clear hr hg C F0
      have f0 := G0.out.ent.free 0
      have c0 := Wer.At.at_fst (x := ⟨0, 0, Ent.zero, []⟩) G0.out.ent
      have F0 : Hid (RfX w gR g x 36 (Wer.enc Wer.zero).toArray (Wer.enc ⟨m, 0, Ent.zero, []⟩).toArray A 0 (b.drop 1) _ (wt1 b)) := Lib.hid (G0.out.put (Wer.At.set_fst (x := ⟨0, 0, Ent.zero, []⟩) G0.out.ent m))
      clear G0
      have C := rfNum g 8 A 0 (b.drop 1) (wt1 b) _ F0.out.rd HN.out (by decide) (by decide)
      rw [← Yn.out] at C
      have C := Lib.hid C
      go_wp2_with fail
      refine C.out.mono ?_
      rintro e u1 ⟨rfl, hr, hg⟩
      have G0 : Hid (RfX w gR g x 36 (Wer.enc Wer.zero).toArray (Wer.enc ⟨m, 0, Ent.zero, []⟩).toArray A 0 (b.drop 1) u1 (wt2 b)) := Lib.hid (F0.out.call hr hg)
      clear hr hg C F0
      have f0 := G0.out.ent.free 1
      have c0 := Wer.At.at_snd (x := ⟨m, 0, Ent.zero, []⟩) G0.out.ent
      have F0 : Hid (RfX w gR g x 36 (Wer.enc Wer.zero).toArray (Wer.enc ⟨m, n, Ent.zero, []⟩).toArray A 0 (b.drop 1) _ (wt2 b)) := Lib.hid (G0.out.put (Wer.At.set_snd (x := ⟨m, 0, Ent.zero, []⟩) G0.out.ent n))
      clear G0
      have C := rfText g 128 A 0 (b.drop 1) (wt2 b) _ F0.out.rd HN.out
      rw [← Ytx.out] at C
      have C := Lib.hid C
      go_wp2_with fail
      refine C.out.mono ?_
      rintro e u2 ⟨rfl, hr, hg⟩
      have G0 : Hid (RfX w gR g x 36 (Wer.enc Wer.zero).toArray (Wer.enc ⟨m, n, Ent.zero, []⟩).toArray A 0 (b.drop 1) u2 (wt3 b)) := Lib.hid (F0.out.call hr hg)
      clear hr hg C F0
      have F0 := G0
      clear G0
      have C := rfRaw g 32 A 0 (b.drop 1) (wt3 b) _ F0.out.rd HN.out
      rw [← Yt.out] at C
      have C := Lib.hid C
      go_wp2_with fail
      refine C.out.mono ?_
      rintro e u3 ⟨rfl, hr, hg⟩
      have G0 : Hid (RfX w gR g x 36 (Wer.enc Wer.zero).toArray (Wer.enc ⟨m, n, Ent.zero, []⟩).toArray A 0 (b.drop 1) u3 (wt4 b)) := Lib.hid (F0.out.call hr hg)
      clear hr hg C F0
      have f0 := G0.out.ent.free 8
      have c0 := Wer.At.at_tag (x := ⟨m, n, Ent.zero, []⟩) G0.out.ent
      have F0 : Hid (RfX w gR g x 36 (Wer.enc Wer.zero).toArray (Wer.enc ⟨m, n, Ent.zero, t⟩).toArray A 0 (b.drop 1) _ (wt4 b)) := Lib.hid (G0.out.put (Wer.At.set_tag (x := ⟨m, n, Ent.zero, []⟩) G0.out.ent t))
      clear G0
      have C := Lib.hid (rfEnd g A 0 (b.drop 1) (wt4 b) _ F0.out.rd)
      go_wp2_with fail
      refine C.out.mono ?_
      rintro e u5 ⟨rfl, hr, hg⟩
      have G0 := Lib.hid (F0.out.call hr hg)
      clear hr hg C F0
      by_cases hE : endE (wt4 b) = 0
      · have dE : (endE (wt4 b) != 0) = false := by simp [hE]
        have EX1 : Hid (rx = if rightW ⟨m, n, en, t⟩ = true then 0 else 11) := Lib.hid (by have q := EX2.out; rw [if_neg (by simp [hE])] at q; exact q)
        clear EX2 hE
        have E0 : Hid (Whole u5 x 36 (Wer.enc ⟨m, n, Ent.zero, t⟩).toArray) := Lib.hid G0.out.ent
        have R0 : Hid (Whole u5 gR 36 (Wer.enc Wer.zero).toArray) := Lib.hid G0.out.res
        have D0 := Lib.hid G0.out.low
        have RR := Lib.hid (show w.heap.size ≤ gR ∧ gR < x from ⟨G0.out.r0, Nat.lt_trans G0.out.rg G0.out.gx⟩)
        clear G0
        obtain ⟨vt, u6, rt, yt, bt⟩ := conv_str u5 ⟨tx.toArray⟩
        have yt : BytesAt u6 vt tx := by simpa using yt
        obtain ⟨At, capt, hvt, -, -⟩ := yt
        subst hvt
        have E6 := Lib.hid (Whole.below E0.out bt (Whole.lt E0.out))
        have R6 := Lib.hid (Whole.below R0.out bt (Whole.lt R0.out))
        have D6 := Lib.hid (D0.out.trans (bt.mono D0.out.size))
        have C := refRead_any At _ capt tx u6 HTX.out yt
        rw [← Yen.out] at C
        have C := Lib.hid C
        clear bt yt E0 R0 D0
        go_wp2_with fail
        refine C.out.mono ?_
        rintro e u7 ⟨rfl, b7⟩
        have E7 := Lib.hid (Whole.below E6.out b7 (Whole.lt E6.out))
        have R7 := Lib.hid (Whole.below R6.out b7 (Whole.lt R6.out))
        have D7 := Lib.hid (D6.out.trans (b7.mono D6.out.size))
        clear b7 C E6 R6 D6 rt
        go_wp2_with (refine wpList_alloc_row rfl 24 rfl ent0.cells ent_zero ?_)
        intro u8 b8 x8 z8
        have XL := Lib.hid (Whole.lt E7.out)
        obtain ⟨y, hy⟩ : ∃ y, y = u7.heap.size := ⟨_, rfl⟩
        rw [← hy] at x8 XL ⊢
        have N8 := Lib.hid x8
        have E8 := Lib.hid (Whole.below E7.out b8 (Whole.lt E7.out))
        have R8 := Lib.hid (Whole.below R7.out b8 (Whole.lt R7.out))
        have D8 := Lib.hid (D7.out.trans (b8.mono D7.out.size))
        clear b8 x8 z8 hy E7 R7 D7
        go_wp2_with (with_reducible refine wpList_store_whole rfl 24 _ _ rfl y en.cells (by with_unfolding_all exact rfl) (by with_unfolding_all exact rfl) _ _ N8.out (ent_size' _) rfl (Ent.cells_one _) ?_)
        intro u9 g9 x9 z9
        have N9 : Hid (EntAt u9 y en) := Lib.hid x9
        have E9 := Lib.hid (Whole.grown E8.out g9 (fun k => by injection k with k; have := XL.out; omega))
        have R9 := Lib.hid (Whole.grown R8.out g9 (fun k => by injection k with k; have := XL.out; have := RR.out; omega))
        have D9 := Lib.hid (D8.out.grown g9 D8.out.size (fun k hk => by injection hk with hk; have := XL.out; have := RR.out; omega))
        clear g9 x9 z9 N8 E8 R8 D8
        go_wp2_with (first | (with_reducible refine wpList_load_ent rfl _ rfl y (by with_unfolding_all exact rfl) en N9.out ?_) | (with_reducible refine wpList_store_part rfl _ _ rfl x 2 (by with_unfolding_all exact rfl) en.enc (by with_unfolding_all exact rfl) [.int .u64 (m : Int), .int .u64 (n : Int)] Ent.zero.enc [.string ⟨t.toArray⟩] E9.out rfl rfl (by kernel_rfl) en.fits.one ?_))
        intro ua ga xa za
        have Ea : Hid (Wer.At ua x ⟨m, n, en, t⟩) := Lib.hid xa
        have Ra := Lib.hid (Whole.grown R9.out ga (fun k => by injection k with k; have := RR.out; omega))
        have Da := Lib.hid (D9.out.grown ga D9.out.size (fun k hk => by injection hk with hk; have := RR.out; omega))
        clear ga xa za N9 E9 R9 D9 XL
        by_cases hX : readX tx = 0
        · have dX : (readX tx != 0) = false := by simp [hX]
          have CR := fun w => Lib.hid (hfRightWelcome_any ⟨m, n, en, t⟩ w)
          generalize hPP : (⟨m, n, en, t⟩ : Wer) = PP at *
          clear hPP hX
          go_wp2_with (first | (with_reducible refine wpList_load_whole Wer.isRec rfl _ rfl x (by with_unfolding_all exact rfl) _ _ (Wer.len _) Ea.out ?_) | (with_reducible refine wpList_load_whole_w Wer.isRec (by kernel_rfl) _ rfl x (by with_unfolding_all exact rfl) _ _ (Wer.len _) Ea.out ?_))
          refine (CR ua).out.mono ?_
          rintro e ub ⟨rfl, bb⟩
          have Eb : Hid (Wer.At ub x PP) := Lib.hid (Whole.below Ea.out bb (Whole.lt Ea.out))
          have Rb := Lib.hid (Whole.below Ra.out bb (Whole.lt Ra.out))
          have Db := Lib.hid (Da.out.trans (bb.mono Da.out.size))
          clear bb CR Ea Ra Da dX
          cases hR : rightW PP with
          | true =>
            have q := EX1.out
            rw [if_pos hR] at q
            have qe := EE.out
            rw [if_pos q] at qe
            subst q qe
            clear EE EX1 hR
            go_wp2_with (first | (with_reducible refine wpList_load_whole Wer.isRec rfl _ rfl x (by with_unfolding_all exact rfl) _ _ (Wer.len _) Eb.out ?_) | (with_reducible refine wpList_store_whole rfl 36 _ _ rfl gR (Wer.enc re).toArray (by with_unfolding_all exact rfl) (by with_unfolding_all exact rfl) _ _ Rb.out (Wer.size _) rfl (Wer.one _) ?_))
            intro uc gc xc zc
            have Rc : Hid (Wer.At uc gR re) := Lib.hid xc
            have Dc := Lib.hid (Db.out.grown gc Db.out.size (fun k hk => by injection hk with hk; have := RR.out; omega))
            clear gc xc zc Rb Db Eb
            go_wp2
            exact bodyPost_ret (results_rec_tmp Wer.isRec rfl _ _ _ _ _ rfl rfl Rc.out) rfl ⟨rfl, Dc.out⟩
          | false =>
            have q := EX1.out
            rw [if_neg (by rw [hR]; decide)] at q
            have qe := EE.out
            rw [if_neg (by rw [q]; decide)] at qe
            subst q qe
            clear EE EX1 hR Eb
            go_wp2_with (first | (with_reducible refine wpList_build_rec rfl 36 _ rfl #[] (by with_unfolding_all exact rfl) (Wer.enc Wer.zero).toArray (by kernel_rfl) ?_) | (with_reducible refine wpList_store_whole rfl 36 _ _ rfl gR (Wer.enc Wer.zero).toArray (by with_unfolding_all exact rfl) (by with_unfolding_all exact rfl) _ _ Rb.out (Wer.size _) rfl (Wer.one _) ?_))
            intro uc gc xc zc
            have Rc : Hid (Wer.At uc gR Wer.zero) := Lib.hid xc
            have Dc := Lib.hid (Db.out.grown gc Db.out.size (fun k hk => by injection hk with hk; have := RR.out; omega))
            clear gc xc zc Rb Db
            go_wp2
            exact bodyPost_ret (results_rec_tmp Wer.isRec rfl _ _ _ _ _ rfl rfl Rc.out) rfl ⟨rfl, Dc.out⟩
        · have dX : (readX tx != 0) = true := by simpa using hX
          have hen : en = ent0 := by rw [Yen.out]; exact read_none hX
          have q := EX1.out
          rw [if_neg (by rw [rightW_none (x := ⟨m, n, en, t⟩) hen]; decide)] at q
          have qe := EE.out
          rw [if_neg (by rw [q]; decide)] at qe
          subst q qe
          clear EE EX1 hX hen Ea
          go_wp2_with (first | (with_reducible refine wpList_build_rec rfl 36 _ rfl #[] (by with_unfolding_all exact rfl) (Wer.enc Wer.zero).toArray (by kernel_rfl) ?_) | (with_reducible refine wpList_store_whole rfl 36 _ _ rfl gR (Wer.enc Wer.zero).toArray (by with_unfolding_all exact rfl) (by with_unfolding_all exact rfl) _ _ Ra.out (Wer.size _) rfl (Wer.one _) ?_))
          intro uc gc xc zc
          have Rc : Hid (Wer.At uc gR Wer.zero) := Lib.hid xc
          have Dc := Lib.hid (Da.out.grown gc Da.out.size (fun k hk => by injection hk with hk; have := RR.out; omega))
          clear gc xc zc Ra Da
          go_wp2
          exact bodyPost_ret (results_rec_tmp Wer.isRec rfl _ _ _ _ _ rfl rfl Rc.out) rfl ⟨rfl, Dc.out⟩
      · have dE : (endE (wt4 b) != 0) = true := by simp [hE]
        have q := EX2.out
        rw [if_pos hE] at q
        have qe := EE.out
        rw [if_neg (by rw [q]; exact hE)] at qe
        subst qe
        have C := Lib.hid (rfEnd g A 0 (b.drop 1) (wt4 b) _ G0.out.rd)
        go_wp2_with (with_reducible refine wpList_build_rec rfl 36 _ rfl #[] (by with_unfolding_all exact rfl) (Wer.enc Wer.zero).toArray (by kernel_rfl) ?_)
        refine C.out.mono ?_
        rintro e u6 ⟨rfl, hr, hg⟩
        have G6 := Lib.hid (G0.out.call hr hg)
        clear hr hg C G0
        have R0 : Hid (Whole u6 gR 36 (Wer.enc Wer.zero).toArray) := Lib.hid G6.out.res
        have D0 := Lib.hid G6.out.low
        have RR := Lib.hid G6.out.r0
        clear G6
        generalize endE (wt4 b) = ee at *
        subst q
        clear EE EX2 hE
        go_wp2_with (with_reducible refine wpList_store_whole rfl 36 _ _ rfl gR (Wer.enc Wer.zero).toArray (by with_unfolding_all exact rfl) (by with_unfolding_all exact rfl) _ _ R0.out (Wer.size _) rfl (Wer.one _) ?_)
        intro uc gc xc zc
        have Rc : Hid (Wer.At uc gR Wer.zero) := Lib.hid xc
        have Dc := Lib.hid (D0.out.grown gc D0.out.size (fun k hk => by injection hk with hk; have := RR.out; omega))
        clear gc xc zc R0 D0
        go_wp2
        exact bodyPost_ret (results_rec_tmp Wer.isRec rfl _ _ _ _ _ rfl rfl Rc.out) rfl ⟨rfl, Dc.out⟩
    · have CO := fun w1 (b1 : Below w.heap.size w w1) => Lib.hid (hfOpen_more h hl hc1 b1)
      have FA := Lib.hid (far_more h hl hc1)
      clear h
      go_enter Tryd.func27, Tryd.ntmps27
      go_wp2_with (refine wpList_alloc_row rfl 36 rfl (Wer.enc Wer.zero).toArray Wer.zero_is ?_)
      intro w1 b1 x1 z1
      obtain ⟨gR, hgR⟩ : ∃ g, g = w.heap.size := ⟨_, rfl⟩
      have M_R := Lib.hid (show w.heap.size ≤ gR from by rw [hgR]; exact Nat.le_refl _)
      have B1 := Lib.hid b1
      rw [← hgR] at x1 ⊢
      have R1 : Hid (Wer.At w1 gR Wer.zero) := Lib.hid x1
      clear b1 x1 z1 hgR 
      go_wp2_with (first | (with_reducible refine wpList_load_whole Wer.isRec rfl _ rfl gR (by with_unfolding_all exact rfl) _ _ (Wer.len _) R1.out ?_) | (with_reducible refine wpList_load_rec Ent.isRec rfl _ rfl gR 2 (by with_unfolding_all exact rfl) _ (Ent.len _) (Wer.At.part_entry R1.out) ?_))
      refine ((CK w1 B1.out).out).mono ?_
      rintro e2 w2 ⟨rfl, b2⟩
      have R2 : Hid (Wer.At w2 gR Wer.zero) := Lib.hid (Whole.below R1.out b2 R1.out.lt)
      have B2 := Lib.hid (B1.out.trans (b2.mono B1.out.size))
      clear b2 R1 B1
      go_wp2_with fail
      refine (CO w2 B2.out).out.mono ?_
      rintro e w0 ⟨rfl, hr, hb⟩
      have R0 := Lib.hid (Whole.below R2.out hb R2.out.lt)
      have B0 := Lib.hid (B2.out.trans (hb.mono B2.out.size))
      have RG := Lib.hid R2.out.lt
      have GZ := Lib.hid (show w2.heap.size < w0.heap.size by
        obtain ⟨p, hp, -⟩ := id hr
        exact Whole.lt hp)
      have RD := Lib.hid hr
      obtain ⟨g, hg⟩ : ∃ g, g = w2.heap.size := ⟨_, rfl⟩
      rw [← hg] at RG GZ RD ⊢
      clear hr hb hg R2 B2 CK CO
      go_wp2_with (first | (with_reducible refine wpList_build_rec rfl 36 _ rfl #[] (by with_unfolding_all exact rfl) (Wer.enc Wer.zero).toArray (by kernel_rfl) ?_) | (refine wpList_alloc_row rfl 36 rfl (Wer.enc Wer.zero).toArray Wer.zero_is ?_))
      intro w1 b1 x1 z1
      obtain ⟨x, hx⟩ : ∃ x, x = w0.heap.size := ⟨_, rfl⟩
      have F1 : Hid (RfX w gR g x 36 (Wer.enc Wer.zero).toArray (Wer.enc Wer.zero).toArray (A.map (fun x => x.add 1)) (cap - 1) (b.drop 1) w1 ⟨b.drop 1, 0⟩) := Lib.hid {
        ent := by rw [hx]; exact x1
        res := Whole.below R0.out b1 (Whole.lt R0.out)
        rd := RD.out.belowR b1
        low := B0.out.trans (b1.mono B0.out.size)
        rg := RG.out
        gx := by rw [hx]; exact GZ.out
        r0 := M_R.out
        far := FA.out }
      rw [← hx]
      clear b1 x1 z1 R0 B0 RG GZ RD FA hx
      have E1 := Lib.hid F1.out.ent
      go_wp2_with (with_reducible refine wpList_store_whole rfl 36 _ _ rfl x (Wer.enc Wer.zero).toArray (by with_unfolding_all exact rfl) (by with_unfolding_all exact rfl) _ _ E1.out (Wer.size _) rfl (Wer.one _) ?_)
      intro w2 g2 x2 z2
      have F0 : Hid (RfX w gR g x 36 (Wer.enc Wer.zero).toArray (Wer.enc ⟨0, 0, Ent.zero, []⟩).toArray (A.map (fun x => x.add 1)) (cap - 1) (b.drop 1) w2 ⟨b.drop 1, 0⟩) := Lib.hid (F1.out.whole g2 x2)
      clear g2 x2 z2 E1 F1
      have C := rfNum g 8 (A.map (fun x => x.add 1)) (cap - 1) (b.drop 1) ⟨b.drop 1, 0⟩ _ F0.out.rd HN.out (by decide) (by decide)
      rw [← Ym.out] at C
      have C := Lib.hid C
      go_wp2_with fail
      refine C.out.mono ?_
      rintro e u0 ⟨rfl, hr, hg⟩
      have G0 : Hid (RfX w gR g x 36 (Wer.enc Wer.zero).toArray (Wer.enc ⟨0, 0, Ent.zero, []⟩).toArray (A.map (fun x => x.add 1)) (cap - 1) (b.drop 1) u0 (wt1 b)) := Lib.hid (F0.out.call hr hg)
      clear hr hg C F0
      have f0 := G0.out.ent.free 0
      have c0 := Wer.At.at_fst (x := ⟨0, 0, Ent.zero, []⟩) G0.out.ent
      have F0 : Hid (RfX w gR g x 36 (Wer.enc Wer.zero).toArray (Wer.enc ⟨m, 0, Ent.zero, []⟩).toArray (A.map (fun x => x.add 1)) (cap - 1) (b.drop 1) _ (wt1 b)) := Lib.hid (G0.out.put (Wer.At.set_fst (x := ⟨0, 0, Ent.zero, []⟩) G0.out.ent m))
      clear G0
      have C := rfNum g 8 (A.map (fun x => x.add 1)) (cap - 1) (b.drop 1) (wt1 b) _ F0.out.rd HN.out (by decide) (by decide)
      rw [← Yn.out] at C
      have C := Lib.hid C
      go_wp2_with fail
      refine C.out.mono ?_
      rintro e u1 ⟨rfl, hr, hg⟩
      have G0 : Hid (RfX w gR g x 36 (Wer.enc Wer.zero).toArray (Wer.enc ⟨m, 0, Ent.zero, []⟩).toArray (A.map (fun x => x.add 1)) (cap - 1) (b.drop 1) u1 (wt2 b)) := Lib.hid (F0.out.call hr hg)
      clear hr hg C F0
      have f0 := G0.out.ent.free 1
      have c0 := Wer.At.at_snd (x := ⟨m, 0, Ent.zero, []⟩) G0.out.ent
      have F0 : Hid (RfX w gR g x 36 (Wer.enc Wer.zero).toArray (Wer.enc ⟨m, n, Ent.zero, []⟩).toArray (A.map (fun x => x.add 1)) (cap - 1) (b.drop 1) _ (wt2 b)) := Lib.hid (G0.out.put (Wer.At.set_snd (x := ⟨m, 0, Ent.zero, []⟩) G0.out.ent n))
      clear G0
      have C := rfText g 128 (A.map (fun x => x.add 1)) (cap - 1) (b.drop 1) (wt2 b) _ F0.out.rd HN.out
      rw [← Ytx.out] at C
      have C := Lib.hid C
      go_wp2_with fail
      refine C.out.mono ?_
      rintro e u2 ⟨rfl, hr, hg⟩
      have G0 : Hid (RfX w gR g x 36 (Wer.enc Wer.zero).toArray (Wer.enc ⟨m, n, Ent.zero, []⟩).toArray (A.map (fun x => x.add 1)) (cap - 1) (b.drop 1) u2 (wt3 b)) := Lib.hid (F0.out.call hr hg)
      clear hr hg C F0
      have F0 := G0
      clear G0
      have C := rfRaw g 32 (A.map (fun x => x.add 1)) (cap - 1) (b.drop 1) (wt3 b) _ F0.out.rd HN.out
      rw [← Yt.out] at C
      have C := Lib.hid C
      go_wp2_with fail
      refine C.out.mono ?_
      rintro e u3 ⟨rfl, hr, hg⟩
      have G0 : Hid (RfX w gR g x 36 (Wer.enc Wer.zero).toArray (Wer.enc ⟨m, n, Ent.zero, []⟩).toArray (A.map (fun x => x.add 1)) (cap - 1) (b.drop 1) u3 (wt4 b)) := Lib.hid (F0.out.call hr hg)
      clear hr hg C F0
      have f0 := G0.out.ent.free 8
      have c0 := Wer.At.at_tag (x := ⟨m, n, Ent.zero, []⟩) G0.out.ent
      have F0 : Hid (RfX w gR g x 36 (Wer.enc Wer.zero).toArray (Wer.enc ⟨m, n, Ent.zero, t⟩).toArray (A.map (fun x => x.add 1)) (cap - 1) (b.drop 1) _ (wt4 b)) := Lib.hid (G0.out.put (Wer.At.set_tag (x := ⟨m, n, Ent.zero, []⟩) G0.out.ent t))
      clear G0
      have C := Lib.hid (rfEnd g (A.map (fun x => x.add 1)) (cap - 1) (b.drop 1) (wt4 b) _ F0.out.rd)
      go_wp2_with fail
      refine C.out.mono ?_
      rintro e u5 ⟨rfl, hr, hg⟩
      have G0 := Lib.hid (F0.out.call hr hg)
      clear hr hg C F0
      by_cases hE : endE (wt4 b) = 0
      · have dE : (endE (wt4 b) != 0) = false := by simp [hE]
        have EX1 : Hid (rx = if rightW ⟨m, n, en, t⟩ = true then 0 else 11) := Lib.hid (by have q := EX2.out; rw [if_neg (by simp [hE])] at q; exact q)
        clear EX2 hE
        have E0 : Hid (Whole u5 x 36 (Wer.enc ⟨m, n, Ent.zero, t⟩).toArray) := Lib.hid G0.out.ent
        have R0 : Hid (Whole u5 gR 36 (Wer.enc Wer.zero).toArray) := Lib.hid G0.out.res
        have D0 := Lib.hid G0.out.low
        have RR := Lib.hid (show w.heap.size ≤ gR ∧ gR < x from ⟨G0.out.r0, Nat.lt_trans G0.out.rg G0.out.gx⟩)
        clear G0
        obtain ⟨vt, u6, rt, yt, bt⟩ := conv_str u5 ⟨tx.toArray⟩
        have yt : BytesAt u6 vt tx := by simpa using yt
        obtain ⟨At, capt, hvt, -, -⟩ := yt
        subst hvt
        have E6 := Lib.hid (Whole.below E0.out bt (Whole.lt E0.out))
        have R6 := Lib.hid (Whole.below R0.out bt (Whole.lt R0.out))
        have D6 := Lib.hid (D0.out.trans (bt.mono D0.out.size))
        have C := refRead_any At _ capt tx u6 HTX.out yt
        rw [← Yen.out] at C
        have C := Lib.hid C
        clear bt yt E0 R0 D0
        go_wp2_with fail
        refine C.out.mono ?_
        rintro e u7 ⟨rfl, b7⟩
        have E7 := Lib.hid (Whole.below E6.out b7 (Whole.lt E6.out))
        have R7 := Lib.hid (Whole.below R6.out b7 (Whole.lt R6.out))
        have D7 := Lib.hid (D6.out.trans (b7.mono D6.out.size))
        clear b7 C E6 R6 D6 rt
        go_wp2_with (refine wpList_alloc_row rfl 24 rfl ent0.cells ent_zero ?_)
        intro u8 b8 x8 z8
        have XL := Lib.hid (Whole.lt E7.out)
        obtain ⟨y, hy⟩ : ∃ y, y = u7.heap.size := ⟨_, rfl⟩
        rw [← hy] at x8 XL ⊢
        have N8 := Lib.hid x8
        have E8 := Lib.hid (Whole.below E7.out b8 (Whole.lt E7.out))
        have R8 := Lib.hid (Whole.below R7.out b8 (Whole.lt R7.out))
        have D8 := Lib.hid (D7.out.trans (b8.mono D7.out.size))
        clear b8 x8 z8 hy E7 R7 D7
        go_wp2_with (with_reducible refine wpList_store_whole rfl 24 _ _ rfl y en.cells (by with_unfolding_all exact rfl) (by with_unfolding_all exact rfl) _ _ N8.out (ent_size' _) rfl (Ent.cells_one _) ?_)
        intro u9 g9 x9 z9
        have N9 : Hid (EntAt u9 y en) := Lib.hid x9
        have E9 := Lib.hid (Whole.grown E8.out g9 (fun k => by injection k with k; have := XL.out; omega))
        have R9 := Lib.hid (Whole.grown R8.out g9 (fun k => by injection k with k; have := XL.out; have := RR.out; omega))
        have D9 := Lib.hid (D8.out.grown g9 D8.out.size (fun k hk => by injection hk with hk; have := XL.out; have := RR.out; omega))
        clear g9 x9 z9 N8 E8 R8 D8
        go_wp2_with (first | (with_reducible refine wpList_load_ent rfl _ rfl y (by with_unfolding_all exact rfl) en N9.out ?_) | (with_reducible refine wpList_store_part rfl _ _ rfl x 2 (by with_unfolding_all exact rfl) en.enc (by with_unfolding_all exact rfl) [.int .u64 (m : Int), .int .u64 (n : Int)] Ent.zero.enc [.string ⟨t.toArray⟩] E9.out rfl rfl (by kernel_rfl) en.fits.one ?_))
        intro ua ga xa za
        have Ea : Hid (Wer.At ua x ⟨m, n, en, t⟩) := Lib.hid xa
        have Ra := Lib.hid (Whole.grown R9.out ga (fun k => by injection k with k; have := RR.out; omega))
        have Da := Lib.hid (D9.out.grown ga D9.out.size (fun k hk => by injection hk with hk; have := RR.out; omega))
        clear ga xa za N9 E9 R9 D9 XL
        by_cases hX : readX tx = 0
        · have dX : (readX tx != 0) = false := by simp [hX]
          have CR := fun w => Lib.hid (hfRightWelcome_any ⟨m, n, en, t⟩ w)
          generalize hPP : (⟨m, n, en, t⟩ : Wer) = PP at *
          clear hPP hX
          go_wp2_with (first | (with_reducible refine wpList_load_whole Wer.isRec rfl _ rfl x (by with_unfolding_all exact rfl) _ _ (Wer.len _) Ea.out ?_) | (with_reducible refine wpList_load_whole_w Wer.isRec (by kernel_rfl) _ rfl x (by with_unfolding_all exact rfl) _ _ (Wer.len _) Ea.out ?_))
          refine (CR ua).out.mono ?_
          rintro e ub ⟨rfl, bb⟩
          have Eb : Hid (Wer.At ub x PP) := Lib.hid (Whole.below Ea.out bb (Whole.lt Ea.out))
          have Rb := Lib.hid (Whole.below Ra.out bb (Whole.lt Ra.out))
          have Db := Lib.hid (Da.out.trans (bb.mono Da.out.size))
          clear bb CR Ea Ra Da dX
          cases hR : rightW PP with
          | true =>
            have q := EX1.out
            rw [if_pos hR] at q
            have qe := EE.out
            rw [if_pos q] at qe
            subst q qe
            clear EE EX1 hR
            go_wp2_with (first | (with_reducible refine wpList_load_whole Wer.isRec rfl _ rfl x (by with_unfolding_all exact rfl) _ _ (Wer.len _) Eb.out ?_) | (with_reducible refine wpList_store_whole rfl 36 _ _ rfl gR (Wer.enc re).toArray (by with_unfolding_all exact rfl) (by with_unfolding_all exact rfl) _ _ Rb.out (Wer.size _) rfl (Wer.one _) ?_))
            intro uc gc xc zc
            have Rc : Hid (Wer.At uc gR re) := Lib.hid xc
            have Dc := Lib.hid (Db.out.grown gc Db.out.size (fun k hk => by injection hk with hk; have := RR.out; omega))
            clear gc xc zc Rb Db Eb
            go_wp2
            exact bodyPost_ret (results_rec_tmp Wer.isRec rfl _ _ _ _ _ rfl rfl Rc.out) rfl ⟨rfl, Dc.out⟩
          | false =>
            have q := EX1.out
            rw [if_neg (by rw [hR]; decide)] at q
            have qe := EE.out
            rw [if_neg (by rw [q]; decide)] at qe
            subst q qe
            clear EE EX1 hR Eb
            go_wp2_with (first | (with_reducible refine wpList_build_rec rfl 36 _ rfl #[] (by with_unfolding_all exact rfl) (Wer.enc Wer.zero).toArray (by kernel_rfl) ?_) | (with_reducible refine wpList_store_whole rfl 36 _ _ rfl gR (Wer.enc Wer.zero).toArray (by with_unfolding_all exact rfl) (by with_unfolding_all exact rfl) _ _ Rb.out (Wer.size _) rfl (Wer.one _) ?_))
            intro uc gc xc zc
            have Rc : Hid (Wer.At uc gR Wer.zero) := Lib.hid xc
            have Dc := Lib.hid (Db.out.grown gc Db.out.size (fun k hk => by injection hk with hk; have := RR.out; omega))
            clear gc xc zc Rb Db
            go_wp2
            exact bodyPost_ret (results_rec_tmp Wer.isRec rfl _ _ _ _ _ rfl rfl Rc.out) rfl ⟨rfl, Dc.out⟩
        · have dX : (readX tx != 0) = true := by simpa using hX
          have hen : en = ent0 := by rw [Yen.out]; exact read_none hX
          have q := EX1.out
          rw [if_neg (by rw [rightW_none (x := ⟨m, n, en, t⟩) hen]; decide)] at q
          have qe := EE.out
          rw [if_neg (by rw [q]; decide)] at qe
          subst q qe
          clear EE EX1 hX hen Ea
          go_wp2_with (first | (with_reducible refine wpList_build_rec rfl 36 _ rfl #[] (by with_unfolding_all exact rfl) (Wer.enc Wer.zero).toArray (by kernel_rfl) ?_) | (with_reducible refine wpList_store_whole rfl 36 _ _ rfl gR (Wer.enc Wer.zero).toArray (by with_unfolding_all exact rfl) (by with_unfolding_all exact rfl) _ _ Ra.out (Wer.size _) rfl (Wer.one _) ?_))
          intro uc gc xc zc
          have Rc : Hid (Wer.At uc gR Wer.zero) := Lib.hid xc
          have Dc := Lib.hid (Da.out.grown gc Da.out.size (fun k hk => by injection hk with hk; have := RR.out; omega))
          clear gc xc zc Ra Da
          go_wp2
          exact bodyPost_ret (results_rec_tmp Wer.isRec rfl _ _ _ _ _ rfl rfl Rc.out) rfl ⟨rfl, Dc.out⟩
      · have dE : (endE (wt4 b) != 0) = true := by simp [hE]
        have q := EX2.out
        rw [if_pos hE] at q
        have qe := EE.out
        rw [if_neg (by rw [q]; exact hE)] at qe
        subst qe
        have C := Lib.hid (rfEnd g (A.map (fun x => x.add 1)) (cap - 1) (b.drop 1) (wt4 b) _ G0.out.rd)
        go_wp2_with (with_reducible refine wpList_build_rec rfl 36 _ rfl #[] (by with_unfolding_all exact rfl) (Wer.enc Wer.zero).toArray (by kernel_rfl) ?_)
        refine C.out.mono ?_
        rintro e u6 ⟨rfl, hr, hg⟩
        have G6 := Lib.hid (G0.out.call hr hg)
        clear hr hg C G0
        have R0 : Hid (Whole u6 gR 36 (Wer.enc Wer.zero).toArray) := Lib.hid G6.out.res
        have D0 := Lib.hid G6.out.low
        have RR := Lib.hid G6.out.r0
        clear G6
        generalize endE (wt4 b) = ee at *
        subst q
        clear EE EX2 hE
        go_wp2_with (with_reducible refine wpList_store_whole rfl 36 _ _ rfl gR (Wer.enc Wer.zero).toArray (by with_unfolding_all exact rfl) (by with_unfolding_all exact rfl) _ _ R0.out (Wer.size _) rfl (Wer.one _) ?_)
        intro uc gc xc zc
        have Rc : Hid (Wer.At uc gR Wer.zero) := Lib.hid xc
        have Dc := Lib.hid (D0.out.grown gc D0.out.size (fun k hk => by injection hk with hk; have := RR.out; omega))
        clear gc xc zc R0 D0
        go_wp2
        exact bodyPost_ret (results_rec_tmp Wer.isRec rfl _ _ _ _ _ rfl rfl Rc.out) rfl ⟨rfl, Dc.out⟩
  · have q := EX.out
    rw [if_pos hk] at q
    have qe := EE.out
    rw [if_neg (by rw [q]; decide)] at qe
    have dk : (kindB b != 2) = true := by simpa using hk
    obtain ⟨A, cap, rfl, -, -⟩ := h
    generalize kindB b = kb at *
    subst q qe
    clear EE EX hk hrx hre hn
    go_enter Tryd.func27, Tryd.ntmps27
    go_wp2_with (refine wpList_alloc_row rfl 36 rfl (Wer.enc Wer.zero).toArray Wer.zero_is ?_)
    intro w1 b1 x1 z1
    obtain ⟨gR, hgR⟩ : ∃ g, g = w.heap.size := ⟨_, rfl⟩
    have M_R := Lib.hid (show w.heap.size ≤ gR from by rw [hgR]; exact Nat.le_refl _)
    have B1 := Lib.hid b1
    rw [← hgR] at x1 ⊢
    have R1 : Hid (Wer.At w1 gR Wer.zero) := Lib.hid x1
    clear b1 x1 z1 hgR 
    go_wp2_with (first | (with_reducible refine wpList_load_whole Wer.isRec rfl _ rfl gR (by with_unfolding_all exact rfl) _ _ (Wer.len _) R1.out ?_) | (with_reducible refine wpList_load_rec Ent.isRec rfl _ rfl gR 2 (by with_unfolding_all exact rfl) _ (Ent.len _) (Wer.At.part_entry R1.out) ?_))
    refine ((CK w1 B1.out).out).mono ?_
    rintro e2 w2 ⟨rfl, b2⟩
    have R2 : Hid (Wer.At w2 gR Wer.zero) := Lib.hid (Whole.below R1.out b2 R1.out.lt)
    have B2 := Lib.hid (B1.out.trans (b2.mono B1.out.size))
    clear b2 R1 B1
    go_wp2_with (first | (with_reducible refine wpList_load_whole Wer.isRec rfl _ rfl gR (by with_unfolding_all exact rfl) _ _ (Wer.len _) R2.out ?_) | (with_reducible refine wpList_load_rec Ent.isRec rfl _ rfl gR 2 (by with_unfolding_all exact rfl) _ (Ent.len _) (Wer.At.part_entry R2.out) ?_) | (with_reducible refine wpList_store_whole rfl 36 _ _ rfl gR (Wer.enc Wer.zero).toArray (by with_unfolding_all exact rfl) (by with_unfolding_all exact rfl) _ _ R2.out (Wer.size _) rfl (Wer.one _) ?_) | (with_reducible refine wpList_build_rec rfl 36 _ rfl #[] (by with_unfolding_all exact rfl) (Wer.enc Wer.zero).toArray (by kernel_rfl) ?_))
    intro w3 q3 x3 z3
    have R3 : Hid (Wer.At w3 gR Wer.zero) := Lib.hid x3
    have B3 := Lib.hid (B2.out.grown q3 B2.out.size (fun k hk => by injection hk with hk; have := M_R.out; omega))
    clear q3 x3 z3 R2 B2
    go_wp2
    exact bodyPost_ret (results_rec_tmp Wer.isRec rfl _ _ _ _ _ rfl rfl R3.out) rfl ⟨rfl, B3.out⟩

set_option maxRecDepth 100000 in
set_option maxHeartbeats 1000000 in
theorem hfTakeReset_any (v : Value) (b : List UInt8) (w : World) (hn : b.length ≤ 9000) (h : BytesAt w v b) :
    Calls Tryd.prog 29 #[v] w fun e w' => e = .returned (.tuple #[.int .u64 (takeR b : Int), .int .i64 (takeRX b)]) ∧ Below w.heap.size w w' := by
  have CK := fun w1 (b1 : Below w.heap.size w w1) => Lib.hid (hfKindOf_any v b w1 (h.below b1))
  have EX : Hid (takeRX b = if kindB b ≠ 4 then 13 else if endE (wt1 b) ≠ 0 then endE (wt1 b) else if numO ⟨b.drop 1, 0⟩ 8 = 0 then 11 else 0) := Lib.hid rfl
  have EE : Hid (takeR b = if takeRX b = 0 then numO ⟨b.drop 1, 0⟩ 8 else 0) := Lib.hid rfl
  obtain ⟨rx, hrx⟩ : ∃ rx, rx = takeRX b := ⟨_, rfl⟩
  obtain ⟨re, hre⟩ : ∃ re, re = takeR b := ⟨_, rfl⟩
  rw [← hrx] at EX EE ⊢
  rw [← hre] at EE ⊢
  by_cases hk : kindB b = 4
  · obtain ⟨c, r, hb, -⟩ := kind_cons hk (by decide)
    have hl : 1 ≤ b.length := by rw [hb]; simp
    have EX2 : Hid (rx = if endE (wt1 b) ≠ 0 then endE (wt1 b) else if numO ⟨b.drop 1, 0⟩ 8 = 0 then 11 else 0) := Lib.hid (by rw [EX.out, if_neg (by simp [hk])])
    rw [hk] at CK
    obtain ⟨A, cap, rfl, hcap, -⟩ := id h
    have HN := Lib.hid (show (b.drop 1).length ≤ 9000 by rw [List.length_drop]; omega)
    obtain ⟨n, q_n⟩ : ∃ n, n = numO ⟨b.drop 1, 0⟩ 8 := ⟨_, rfl⟩
    obtain ⟨en, hen⟩ : ∃ en, en = endE (wt1 b) := ⟨_, rfl⟩
    rw [← q_n, ← hen] at EX2
    rw [← q_n] at EE
    have Yn := Lib.hid q_n
    have Yen := Lib.hid hen
    clear hrx hre hk hb EX q_n hen hn
    by_cases hc1 : cap = 1
    · subst hc1
      have CO := fun w1 (b1 : Below w.heap.size w w1) => Lib.hid (hfOpen_one h hl b1)
      clear h
      go_enter Tryd.func29, Tryd.ntmps29
      go_wp2_with fail
      refine ((CK w (Below.refl _ _)).out).mono ?_
      rintro e1 w1 ⟨rfl, b1⟩
      have B1 := Lib.hid b1
      clear b1 
      go_wp2_with fail
      refine (CO w1 B1.out).out.mono ?_
      rintro e w0 ⟨rfl, hr, hb⟩
      have BZ := Lib.hid (And.intro (B1.out.trans (hb.mono B1.out.size)) B1.out.size)
      obtain ⟨g, hg⟩ : ∃ g, g = w1.heap.size := ⟨_, rfl⟩
      rw [← hg] at BZ hr ⊢
      have R0 := Lib.hid hr
      clear hr hb B1 hg CK CO
      have C := rfNum g 8 A 0 (b.drop 1) ⟨b.drop 1, 0⟩ _ R0.out HN.out (by decide) (by decide)
      rw [← Yn.out] at C
      have C := Lib.hid C
      go_wp2_with fail
      refine C.out.mono ?_
      rintro e v1 ⟨rfl, hr, hg⟩
      have B1 := Lib.hid (BZ.out.1.grown hg BZ.out.1.size (fun k hk => by injection hk with hk; have := BZ.out.2; omega))
      have R1 : Hid (RfS v1 g A 0 (b.drop 1) (wt1 b)) := Lib.hid hr
      have GW := Lib.hid (Nat.le_trans BZ.out.2 (Nat.le_refl g))
      clear hr hg C R0 BZ
      have C := rfEnd g A 0 (b.drop 1) (wt1 b) _ R1.out
      rw [← Yen.out] at C
      have C := Lib.hid C
      go_wp2_with fail
      refine C.out.mono ?_
      rintro e v2 ⟨rfl, hr, hg⟩
      have B2 := Lib.hid (B1.out.grown hg B1.out.size (fun k hk => by injection hk with hk; have := GW.out; omega))
      have R2 := Lib.hid hr
      clear hr hg C B1 R1
      by_cases hE : en = 0
      · have dE : (en != 0) = false := by simp [hE]
        by_cases hn : n = 0
        · have q : rx = 11 := by have q := EX2.out; rw [if_neg (by simp [hE]), if_pos hn] at q; exact q
          have qe : re = 0 := by have q2 := EE.out; rw [if_neg (by rw [q]; decide)] at q2; exact q2
          have dn : ((n : Int) == 0) = true := by simp [hn]
          subst q qe
          clear EX2 EE hE hn Yn Yen
          go_wp2
          go_ret2
          exact ⟨rfl, B2.out⟩
        · have q : rx = 0 := by have q := EX2.out; rw [if_neg (by simp [hE]), if_neg hn] at q; exact q
          have qe : re = n := by have q2 := EE.out; rw [if_pos q] at q2; exact q2
          have dn : ((n : Int) == 0) = false := by rw [beq_eq_false_iff_ne]; omega
          have dn2 : decide ((n : Int) = 0) = false := by simp; omega
          have dn3 : decide (n = 0) = false := by simpa using hn
          subst q qe
          clear EX2 EE hE Yn Yen
          go_wp2
          go_ret2
          exact ⟨rfl, B2.out⟩
      · have dE : (en != 0) = true := by simp [hE]
        have q : rx = en := by have q := EX2.out; rw [if_pos hE] at q; exact q
        have qe : re = 0 := by have q2 := EE.out; rw [if_neg (by rw [q]; exact hE)] at q2; exact q2
        have C := rfEnd g A 0 (b.drop 1) (wt1 b) _ R2.out
        rw [← Yen.out] at C
        have C := Lib.hid C
        clear Yen Yn
        subst q qe
        clear EX2 EE hE
        go_wp2_with fail
        refine C.out.mono ?_
        rintro e v3 ⟨rfl, hr, hg⟩
        have B3 := Lib.hid (B2.out.grown hg B2.out.size (fun k hk => by injection hk with hk; have := GW.out; omega))
        clear hr hg C B2 R2
        go_wp2
        go_ret2
        exact ⟨rfl, B3.out⟩
    · have CO := fun w1 (b1 : Below w.heap.size w w1) => Lib.hid (hfOpen_more h hl hc1 b1)
      clear h
      go_enter Tryd.func29, Tryd.ntmps29
      go_wp2_with fail
      refine ((CK w (Below.refl _ _)).out).mono ?_
      rintro e1 w1 ⟨rfl, b1⟩
      have B1 := Lib.hid b1
      clear b1 
      go_wp2_with fail
      refine (CO w1 B1.out).out.mono ?_
      rintro e w0 ⟨rfl, hr, hb⟩
      have BZ := Lib.hid (And.intro (B1.out.trans (hb.mono B1.out.size)) B1.out.size)
      obtain ⟨g, hg⟩ : ∃ g, g = w1.heap.size := ⟨_, rfl⟩
      rw [← hg] at BZ hr ⊢
      have R0 := Lib.hid hr
      clear hr hb B1 hg CK CO
      have C := rfNum g 8 (A.map (fun x => x.add 1)) (cap - 1) (b.drop 1) ⟨b.drop 1, 0⟩ _ R0.out HN.out (by decide) (by decide)
      rw [← Yn.out] at C
      have C := Lib.hid C
      go_wp2_with fail
      refine C.out.mono ?_
      rintro e v1 ⟨rfl, hr, hg⟩
      have B1 := Lib.hid (BZ.out.1.grown hg BZ.out.1.size (fun k hk => by injection hk with hk; have := BZ.out.2; omega))
      have R1 : Hid (RfS v1 g (A.map (fun x => x.add 1)) (cap - 1) (b.drop 1) (wt1 b)) := Lib.hid hr
      have GW := Lib.hid (Nat.le_trans BZ.out.2 (Nat.le_refl g))
      clear hr hg C R0 BZ
      have C := rfEnd g (A.map (fun x => x.add 1)) (cap - 1) (b.drop 1) (wt1 b) _ R1.out
      rw [← Yen.out] at C
      have C := Lib.hid C
      go_wp2_with fail
      refine C.out.mono ?_
      rintro e v2 ⟨rfl, hr, hg⟩
      have B2 := Lib.hid (B1.out.grown hg B1.out.size (fun k hk => by injection hk with hk; have := GW.out; omega))
      have R2 := Lib.hid hr
      clear hr hg C B1 R1
      by_cases hE : en = 0
      · have dE : (en != 0) = false := by simp [hE]
        by_cases hn : n = 0
        · have q : rx = 11 := by have q := EX2.out; rw [if_neg (by simp [hE]), if_pos hn] at q; exact q
          have qe : re = 0 := by have q2 := EE.out; rw [if_neg (by rw [q]; decide)] at q2; exact q2
          have dn : ((n : Int) == 0) = true := by simp [hn]
          subst q qe
          clear EX2 EE hE hn Yn Yen
          go_wp2
          go_ret2
          exact ⟨rfl, B2.out⟩
        · have q : rx = 0 := by have q := EX2.out; rw [if_neg (by simp [hE]), if_neg hn] at q; exact q
          have qe : re = n := by have q2 := EE.out; rw [if_pos q] at q2; exact q2
          have dn : ((n : Int) == 0) = false := by rw [beq_eq_false_iff_ne]; omega
          have dn2 : decide ((n : Int) = 0) = false := by simp; omega
          have dn3 : decide (n = 0) = false := by simpa using hn
          subst q qe
          clear EX2 EE hE Yn Yen
          go_wp2
          go_ret2
          exact ⟨rfl, B2.out⟩
      · have dE : (en != 0) = true := by simp [hE]
        have q : rx = en := by have q := EX2.out; rw [if_pos hE] at q; exact q
        have qe : re = 0 := by have q2 := EE.out; rw [if_neg (by rw [q]; exact hE)] at q2; exact q2
        have C := rfEnd g (A.map (fun x => x.add 1)) (cap - 1) (b.drop 1) (wt1 b) _ R2.out
        rw [← Yen.out] at C
        have C := Lib.hid C
        clear Yen Yn
        subst q qe
        clear EX2 EE hE
        go_wp2_with fail
        refine C.out.mono ?_
        rintro e v3 ⟨rfl, hr, hg⟩
        have B3 := Lib.hid (B2.out.grown hg B2.out.size (fun k hk => by injection hk with hk; have := GW.out; omega))
        clear hr hg C B2 R2
        go_wp2
        go_ret2
        exact ⟨rfl, B3.out⟩
  · have q := EX.out
    rw [if_pos hk] at q
    have qe := EE.out
    rw [if_neg (by rw [q]; decide)] at qe
    have dk : (kindB b != 4) = true := by simpa using hk
    obtain ⟨A, cap, rfl, -, -⟩ := h
    generalize kindB b = kb at *
    subst q qe
    clear EE EX hk hrx hre hn
    go_enter Tryd.func29, Tryd.ntmps29
    go_wp2_with fail
    refine ((CK w (Below.refl _ _)).out).mono ?_
    rintro e1 w1 ⟨rfl, b1⟩
    have B1 := Lib.hid b1
    clear b1 
    go_wp2
    go_ret2
    exact ⟨rfl, B1.out⟩
end Go.Proofs.YtpcdbpijgmninaaDoor
