/- What the document's left, Quarter and word of layer 6 answer. Slices of words of 32 bits: what they hold, literals, append. -/
import Derived.Test.YtmnhpkdldeifgaaGreatDoorGh
import Derived.Test.YtmnhpkdldeifgaaGreatDoorGb
import Derived.Test.YtmnhpkdldeifgaaGreatDoorGg
namespace Go.Proofs.YtmnhpkdldeifgaaGreatDoor
set_option maxRecDepth 100000
open Go.RowKit

theorem refLeft_16 (x : UInt32) (w : World) : Calls Tryz.prog 94 #[wd x, .int .u64 16] w fun e w' => e = .returned (wd (rotl x 16)) ∧ w = w' := by
  obtain ⟨-, -, -, r4, -⟩ := rules_w
  have s1 := run_shl 16 (by decide) 16 rfl
  have s2 := run_shr 16 (by decide) 16 rfl
  go_enter Tryz.func94, Tryz.ntmps94
  go_wp2
  go_ret
  exact ⟨rfl, rfl⟩
theorem refLeft_12 (x : UInt32) (w : World) : Calls Tryz.prog 94 #[wd x, .int .u64 12] w fun e w' => e = .returned (wd (rotl x 12)) ∧ w = w' := by
  obtain ⟨-, -, -, r4, -⟩ := rules_w
  have s1 := run_shl 12 (by decide) 12 rfl
  have s2 := run_shr 20 (by decide) 20 rfl
  go_enter Tryz.func94, Tryz.ntmps94
  go_wp2
  go_ret
  exact ⟨rfl, rfl⟩
theorem refLeft_8 (x : UInt32) (w : World) : Calls Tryz.prog 94 #[wd x, .int .u64 8] w fun e w' => e = .returned (wd (rotl x 8)) ∧ w = w' := by
  obtain ⟨-, -, -, r4, -⟩ := rules_w
  have s1 := run_shl 8 (by decide) 8 rfl
  have s2 := run_shr 24 (by decide) 24 rfl
  go_enter Tryz.func94, Tryz.ntmps94
  go_wp2
  go_ret
  exact ⟨rfl, rfl⟩
theorem refLeft_7 (x : UInt32) (w : World) : Calls Tryz.prog 94 #[wd x, .int .u64 7] w fun e w' => e = .returned (wd (rotl x 7)) ∧ w = w' := by
  obtain ⟨-, -, -, r4, -⟩ := rules_w
  have s1 := run_shl 7 (by decide) 7 rfl
  have s2 := run_shr 25 (by decide) 25 rfl
  go_enter Tryz.func94, Tryz.ntmps94
  go_wp2
  go_ret
  exact ⟨rfl, rfl⟩

/-- The four words behind so many steps. -/
def qSt (a b c d : UInt32) : Nat → UInt32 × UInt32 × UInt32 × UInt32
  | 0 => (a, b, c, d)
  | 1 => (a + b, b, c, rotl (d ^^^ (a + b)) 16)
  | 2 => qHalf 16 12 (a, b, c, d)
  | 3 => match qHalf 16 12 (a, b, c, d) with | (a, b, c, d) => (a + b, b, c, rotl (d ^^^ (a + b)) 8)
  | _ => quarter a b c d

set_option maxHeartbeats 1000000 in
theorem refQuarter_any (a b c d : UInt32) (w : World) :
    Calls Tryz.prog 80 #[wd a, wd b, wd c, wd d] w fun e w' => e = .returned (.tuple #[wd (quarter a b c d).1, wd (quarter a b c d).2.1, wd (quarter a b c d).2.2.1, wd (quarter a b c d).2.2.2]) ∧ Below w.heap.size w w' := by
  obtain ⟨r1, r2, -, -, -⟩ := rules_w
  go_enter Tryz.func80, Tryz.ntmps80
  go_wp2_with fail
  have b1 : Below w.heap.size w (w.alloc (.cells #[.int .u64 16, .int .u64 12, .int .u64 8, .int .u64 7] 103)) := (Below.refl _ _).alloc (Nat.le_refl _) _
  have y1 := Whole.new w 103 #[.int .u64 16, .int .u64 12, .int .u64 8, .int .u64 7]
  have c0 := y1.at_ 0
  have c1 := y1.at_ 1
  have c2 := y1.at_ 2
  have c3 := y1.at_ 3
  simp only [List.getElem?_toArray, List.getElem?_cons_zero, List.getElem?_cons_succ] at c0 c1 c2 c3
  generalize w.alloc (.cells #[.int .u64 16, .int .u64 12, .int .u64 8, .int .u64 7] 103) = w1 at *
  have B1 := Lib.hid b1
  clear b1 y1
  go_loop [0, 1, 2, 3, 13] (fun ua ub uc ud i => ∃ k : Nat, k ≤ 4 ∧ i = .int .i64 (k : Int) ∧ ua = wd (qSt a b c d k).1 ∧ ub = wd (qSt a b c d k).2.1 ∧ uc = wd (qSt a b c d k).2.2.1 ∧ ud = wd (qSt a b c d k).2.2.2) (fun _ _ _ _ i => 4 - (intOf i).toNat)
  case atStart => exact ⟨0, by decide, rfl, rfl, rfl, rfl, rfl⟩
  case round =>
    obtain ⟨k, hk, rfl, rfl, rfl, rfl, rfl⟩ := hrel
    match k, hk with
    | 0, _ =>
      go_wp2_with fail
      refine (refLeft_16 _ w1).mono ?_
      rintro e w2 ⟨rfl, rfl⟩
      go_wp2_with fail
      exact ⟨⟨1, by decide, rfl, rfl, rfl, rfl, rfl⟩, by simp [intOf]⟩
    | 1, _ =>
      go_wp2_with fail
      refine (refLeft_12 _ w1).mono ?_
      rintro e w2 ⟨rfl, rfl⟩
      go_wp2_with fail
      exact ⟨⟨2, by decide, rfl, rfl, rfl, rfl, rfl⟩, by simp [intOf]⟩
    | 2, _ =>
      go_wp2_with fail
      refine (refLeft_8 _ w1).mono ?_
      rintro e w2 ⟨rfl, rfl⟩
      go_wp2_with fail
      exact ⟨⟨3, by decide, rfl, rfl, rfl, rfl, rfl⟩, by simp [intOf]⟩
    | 3, _ =>
      go_wp2_with fail
      refine (refLeft_7 _ w1).mono ?_
      rintro e w2 ⟨rfl, rfl⟩
      go_wp2_with fail
      exact ⟨⟨4, by decide, rfl, rfl, rfl, rfl, rfl⟩, by simp [intOf]⟩
    | 4, _ =>
      go_wp2_with fail
      refine bodyPost_ret (results_tmp4 rfl _ _ _) rfl ?_
      exact ⟨rfl, B1.out⟩
    | k + 5, h => exact absurd h (by omega)

theorem or_step (x y : UInt32) (i : Nat) (hi : i < 32) (hx : x.toNat < 2 ^ i) (hy : y.toNat * 2 ^ i < 4294967296) : (x ||| y <<< UInt32.ofNat i).toNat = x.toNat + y.toNat * 2 ^ i := by
  have e : (y <<< UInt32.ofNat i).toNat = y.toNat <<< i := by
    have hm : i % 4294967296 % 32 = i := by omega
    simp only [UInt32.toNat_shiftLeft, UInt32.toNat_ofNat', hm]
    rw [Nat.mod_eq_of_lt (by rw [Nat.shiftLeft_eq]; exact hy)]
  rw [UInt32.toNat_or, e, Nat.or_comm, ← Nat.shiftLeft_add_eq_or_of_lt hx, Nat.shiftLeft_eq, Nat.add_comm]
theorem lword_nat (a b c d : UInt8) : (lword [a, b, c, d]).toNat = a.toNat + b.toNat * 256 + c.toNat * 65536 + d.toNat * 16777216 := by
  have ha := a.toNat_lt
  have hb := b.toNat_lt
  have hc := c.toNat_lt
  have hd := d.toNat_lt
  have s1 := or_step a.toUInt32 b.toUInt32 8 (by decide) (by simp; omega) (by simp; omega)
  have s2 := or_step (a.toUInt32 ||| b.toUInt32 <<< UInt32.ofNat 8) c.toUInt32 16 (by decide) (by rw [s1]; simp; omega) (by simp; omega)
  have s3 := or_step (a.toUInt32 ||| b.toUInt32 <<< UInt32.ofNat 8 ||| c.toUInt32 <<< UInt32.ofNat 16) d.toUInt32 24 (by decide) (by rw [s2, s1]; simp; omega) (by simp; omega)
  have e : lword [a, b, c, d] = a.toUInt32 ||| b.toUInt32 <<< UInt32.ofNat 8 ||| c.toUInt32 <<< UInt32.ofNat 16 ||| d.toUInt32 <<< UInt32.ofNat 24 := rfl
  rw [e, s3, s2, s1]
  simp
theorem lword_sum (a b c d : UInt8) : d.toUInt32 * 16777216 + c.toUInt32 * 65536 + b.toUInt32 * 256 + a.toUInt32 = lword [a, b, c, d] := by
  have ha := a.toNat_lt
  have hb := b.toNat_lt
  have hc := c.toNat_lt
  have hd := d.toNat_lt
  apply UInt32.toNat_inj.1
  rw [lword_nat]
  simp
  omega

set_option maxHeartbeats 1000000 in
theorem refWord_any (b off cap : Nat) (c0 c1 c2 c3 : UInt8) (w : World) (k0 : w.cell? ⟨b, off, none⟩ = some (.int .u8 (c0.toNat : Int))) (k1 : w.cell? ⟨b, off + 1, none⟩ = some (.int .u8 (c1.toNat : Int)))
    (k2 : w.cell? ⟨b, off + 2, none⟩ = some (.int .u8 (c2.toNat : Int))) (k3 : w.cell? ⟨b, off + 3, none⟩ = some (.int .u8 (c3.toNat : Int))) :
    Calls Tryz.prog 79 #[.slice (some ⟨b, off, none⟩) 4 cap] w fun e w' => e = .returned (wd (lword [c0, c1, c2, c3])) ∧ w'.heap = w.heap ∧ Below w.heap.size w w' := by
  obtain ⟨r1, -, -, -, -⟩ := rules_w
  have m24 := run_mul 16777216 (by decide) 16777216 rfl
  have m16 := run_mul 65536 (by decide) 65536 rfl
  have m8 := run_mul 256 (by decide) 256 rfl
  have HW := Lib.hid (lword_sum c0 c1 c2 c3)
  have bw : ∀ c : UInt8, Value.int .u32 (IntKind.u32.wrap (c.toNat : Int)) = wd c.toUInt32 := fun c => by
    have := c.toNat_lt
    rw [IntWalk.u32_in _ (by omega)]
    exact byte_wd c
  have K0 := Lib.hid k0
  have K1 := Lib.hid k1
  have K2 := Lib.hid k2
  have K3 := Lib.hid k3
  clear k0 k1 k2 k3
  go_enter Tryz.func79, Tryz.ntmps79
  go_wp2_with fail
  refine still_all (by kernel_rfl) (by kernel_rfl) fun w1 h1 b1 => ?_
  have k0 : w1.cell? ⟨b, off, none⟩ = some (.int .u8 (c0.toNat : Int)) := (World.cell?_of_block (by rw [h1])).trans K0.out
  have k1 : w1.cell? ⟨b, off + 1, none⟩ = some (.int .u8 (c1.toNat : Int)) := (World.cell?_of_block (by rw [h1])).trans K1.out
  have k2 : w1.cell? ⟨b, off + 2, none⟩ = some (.int .u8 (c2.toNat : Int)) := (World.cell?_of_block (by rw [h1])).trans K2.out
  have k3 : w1.cell? ⟨b, off + 3, none⟩ = some (.int .u8 (c3.toNat : Int)) := (World.cell?_of_block (by rw [h1])).trans K3.out
  repeat still_step
  refine wpStill_nil ?_
  have H1 := Lib.hid h1
  have B1 := Lib.hid b1
  clear h1 b1 k0 k1 k2 k3
  go_wp2
  go_ret
  exact ⟨congrArg (fun z => Ending.returned (wd z)) HW.out, H1.out, B1.out⟩
end Go.Proofs.YtmnhpkdldeifgaaGreatDoor

namespace Go.Proofs.YtmnhpkdldeifgaaGreatDoor
set_option maxRecDepth 100000
open Go.RowKit

theorem word_info : (Tryz.prog.info? 57).map (fun i => (i.zero, i.size, i.bytes)) = some (some (.int .u32 0), 1, 4) := by kernel_rfl
/-- The slice v is just these words. -/
def WordsAt (w : World) (v : Value) (l : List UInt32) : Prop :=
  ∃ b off cap, v = .slice (some ⟨b, off, none⟩) l.length cap ∧ l.length ≤ cap ∧ b < w.heap.size ∧ ∀ j x, l[j]? = some x → w.cell? ⟨b, off + j, none⟩ = some (wd x)
theorem WordsAt.below {w w' : World} {v : Value} {l : List UInt32} (h : WordsAt w v l) (hb : Below w.heap.size w w') : WordsAt w' v l := by
  obtain ⟨b, off, cap, rfl, hc, hlt, hcell⟩ := h
  exact ⟨b, off, cap, rfl, hc, Nat.lt_of_lt_of_le hlt hb.size, fun j x hj => (hb.cell (p := ⟨b, off + j, none⟩) hlt).trans (hcell j x hj)⟩
theorem WordsAt.of_heap {w w' : World} {v : Value} {l : List UInt32} (h : WordsAt w v l) (hh : w'.heap = w.heap) : WordsAt w' v l := by
  obtain ⟨b, off, cap, rfl, hc, hlt, hcell⟩ := h
  refine ⟨b, off, cap, rfl, hc, by rw [hh]; exact hlt, fun j x hj => ?_⟩
  rw [← hcell j x hj]
  exact World.cell?_of_block (by rw [hh])
theorem WordsAt.whole {w : World} {g : Nat} {t : TypeId} {l : List UInt32} (h : Whole w g t (wv l)) : WordsAt w (.slice (some ⟨g, 0, none⟩) l.length l.length) l :=
  ⟨g, 0, _, rfl, Nat.le_refl _, h.lt, fun j x hj => by rw [Nat.zero_add]; exact (h.at_ j).trans (wv_at _ _ _ hj)⟩
theorem WordsAt.of_own {w : World} {base : Nat} {v : Value} {l : List UInt32} (h : w.ownsRow base 57 1 v l.length (l.map wd)) (hl : 0 < l.length) : WordsAt w v l := by
  have hc := @World.ownsRow.cells _ _ _ _ _ _ _ h
  have hlt := h.lt
  rcases h.2 with ⟨rfl, hn⟩ | ⟨g, cap, cur, rfl, _, _, hcap, _⟩
  · omega
  · refine ⟨g, 0, cap, rfl, hcap, (hlt g rfl).2, fun j x hj => ?_⟩
    have q := hc (g := g) rfl j (wd x) (by simp [hj])
    have ha : (⟨g, 0, none⟩ : Addr).add j = ⟨g, 0 + j, none⟩ := by unfold Addr.add; split <;> simp_all
    rwa [ha] at q

theorem lit_wd1 (x : UInt32) (w : World) : (Instr.buildSlice 105 1 #[(0, wd x)]).run Tryz.prog w = .ok (.slice (some ⟨w.heap.size, 0, none⟩) 1 1) (w.alloc (.cells (wv [x]) 57)) := by kernel_rfl
theorem lit_wd8 (x0 x1 x2 x3 x4 x5 x6 x7 : UInt32) (w : World) : (Instr.buildSlice 105 8 #[(0, wd x0), (1, wd x1), (2, wd x2), (3, wd x3), (4, wd x4), (5, wd x5), (6, wd x6), (7, wd x7)]).run Tryz.prog w =
    .ok (.slice (some ⟨w.heap.size, 0, none⟩) 8 8) (w.alloc (.cells (wv [x0, x1, x2, x3, x4, x5, x6, x7]) 57)) := by kernel_rfl

section
variable {ops : Array Oper} {rest : List Oper} {o : Oper} {a : Act} {w : World} {Q : Exit → Act → World → Prop}
theorem wpList_lit_wd1 (hgd : o.guard = none) (p : Operand) (ho : o.op = .buildSlice 105 1 #[(0, p)]) (x : UInt32) (hp : a.eval p = wd x)
    (h : ∀ w', Below w.heap.size w w' → Whole w' w.heap.size 57 (wv [x]) → w.grownBy w' none → wpList Tryz.prog ops Q rest (a.put o.dst (.slice (some ⟨w.heap.size, 0, none⟩) 1 1)) w') : wpList Tryz.prog ops Q (o :: rest) a w := by
  refine wpList_plain hgd fun K hK => ?_
  have q := hK _ _ (h _ ((Below.refl _ _).alloc (Nat.le_refl _) _) (Whole.new w 57 (wv [x])) ⟨rfl, rfl, rfl, by simp, fun k hk _ => Below.heap_alloc w _ k hk⟩)
  unfold Oper.wp execOp
  simp only [ho, List.map_toArray, List.map_cons, List.map_nil, hp, lit_wd1, Sem.run_bind, Sem.run_pure, Result.andThen_ok, Oper.upon]
  exact q
theorem wpList_lit_wd8 (hgd : o.guard = none) (p0 p1 p2 p3 p4 p5 p6 p7 : Operand) (ho : o.op = .buildSlice 105 8 #[(0, p0), (1, p1), (2, p2), (3, p3), (4, p4), (5, p5), (6, p6), (7, p7)]) (x0 x1 x2 x3 x4 x5 x6 x7 : UInt32)
    (h0 : a.eval p0 = wd x0) (h1 : a.eval p1 = wd x1) (h2 : a.eval p2 = wd x2) (h3 : a.eval p3 = wd x3) (h4 : a.eval p4 = wd x4) (h5 : a.eval p5 = wd x5) (h6 : a.eval p6 = wd x6) (h7 : a.eval p7 = wd x7)
    (h : ∀ w', Below w.heap.size w w' → Whole w' w.heap.size 57 (wv [x0, x1, x2, x3, x4, x5, x6, x7]) → wpList Tryz.prog ops Q rest (a.put o.dst (.slice (some ⟨w.heap.size, 0, none⟩) 8 8)) w') : wpList Tryz.prog ops Q (o :: rest) a w := by
  refine wpList_plain hgd fun K hK => ?_
  have q := hK _ _ (h _ ((Below.refl _ _).alloc (Nat.le_refl _) _) (Whole.new w 57 (wv [x0, x1, x2, x3, x4, x5, x6, x7])))
  unfold Oper.wp execOp
  simp only [ho, List.map_toArray, List.map_cons, List.map_nil, h0, h1, h2, h3, h4, h5, h6, h7, lit_wd8, Sem.run_bind, Sem.run_pure, Result.andThen_ok, Oper.upon]
  exact q
theorem wp_lit_wd1 {K : Act → World → Prop} (p : Operand) (ho : o.op = .buildSlice 105 1 #[(0, p)]) (x : UInt32) (hp : a.eval p = wd x)
    (h : ∀ w', Below w.heap.size w w' → Whole w' w.heap.size 57 (wv [x]) → w.grownBy w' none → K (a.put o.dst (.slice (some ⟨w.heap.size, 0, none⟩) 1 1)) w') : o.wp Tryz.prog a w K Q := by
  have q := h _ ((Below.refl _ _).alloc (Nat.le_refl _) _) (Whole.new w 57 (wv [x])) ⟨rfl, rfl, rfl, by simp, fun k hk _ => Below.heap_alloc w _ k hk⟩
  unfold Oper.wp execOp
  simp only [ho, List.map_toArray, List.map_cons, List.map_nil, hp, lit_wd1, Sem.run_bind, Sem.run_pure, Result.andThen_ok, Oper.upon]
  exact q
theorem wp_append_wd {K : Act → World → Prop} (s x : Operand) (ho : o.op = .call { callee := .builtin .append, args := #[s, x], argTypes := #[105, 105] })
    (base : Nat) (v : Value) (n : Nat) (xs : List Value) (hv : a.eval s = v) (hown : w.ownsRow base 57 1 v n xs) (g : Nat) (y : UInt32) (hx : a.eval x = .slice (some ⟨g, 0, none⟩) 1 1) (hg : Whole w g 57 (wv [y])) (hlen : n ≤ 1000) (hbase : base ≤ w.heap.size)
    (h : ∀ v' w', w'.ownsRow base 57 1 v' (n + 1) (xs ++ [wd y]) → w.grownBy w' v.ownBlock → K (a.put o.dst v') w') : o.wp Tryz.prog a w K Q := by
  obtain ⟨i0, hi0, hz0, hz1, hz2⟩ := info_parts word_info
  obtain ⟨v', w', hr, h2, h3, _⟩ := run_append_own (P := Tryz.prog) w base 105 o.type 57 i0 (.int .u32 0) 1 4 Tryz.underlying105 hi0 hz0 hz1 hz2 rfl (by decide) v n xs hown ⟨g, 0, none⟩ 1 1 [wd y] rfl (fun j u hu => by
      have ha : (⟨g, 0, none⟩ : Addr).add j = ⟨g, j, none⟩ := by unfold Addr.add; split <;> simp_all
      rw [ha, hg.at_ j]
      simpa [wv] using hu) (fun u hu => by
      simp at hu
      subst hu
      rfl) (by simp only [maxLen]; omega) (by omega) hbase
  have q := h v' w' h2 h3
  unfold Oper.wp execOp
  simp only [ho, resolve, invoke, builtin, Sem.run_bind, Sem.run_pure, Result.andThen_ok, List.map_toArray, List.map_cons, List.map_nil, hv, hx, hr]
  exact q
/-- A word behind words of one's own. -/
theorem wpList_append_wd (hgd : o.guard = none) (s x : Operand) (ho : o.op = .call { callee := .builtin .append, args := #[s, x], argTypes := #[105, 105] })
    (base : Nat) (v : Value) (n : Nat) (xs : List Value) (hv : a.eval s = v) (hown : w.ownsRow base 57 1 v n xs) (g : Nat) (y : UInt32) (hx : a.eval x = .slice (some ⟨g, 0, none⟩) 1 1) (hg : Whole w g 57 (wv [y])) (hlen : n ≤ 1000) (hbase : base ≤ w.heap.size)
    (h : ∀ v' w', w'.ownsRow base 57 1 v' (n + 1) (xs ++ [wd y]) → w.grownBy w' v.ownBlock → wpList Tryz.prog ops Q rest (a.put o.dst v') w') : wpList Tryz.prog ops Q (o :: rest) a w := by
  refine wpList_plain hgd fun K hK => ?_
  obtain ⟨i0, hi0, hz0, hz1, hz2⟩ := info_parts word_info
  obtain ⟨v', w', hr, h2, h3, _⟩ := run_append_own (P := Tryz.prog) w base 105 o.type 57 i0 (.int .u32 0) 1 4 Tryz.underlying105 hi0 hz0 hz1 hz2 rfl (by decide) v n xs hown ⟨g, 0, none⟩ 1 1 [wd y] rfl (fun j u hu => by
      have ha : (⟨g, 0, none⟩ : Addr).add j = ⟨g, j, none⟩ := by unfold Addr.add; split <;> simp_all
      rw [ha, hg.at_ j]
      simpa [wv] using hu) (fun u hu => by
      simp at hu
      subst hu
      rfl) (by simp only [maxLen]; omega) (by omega) hbase
  have q := hK _ _ (h v' w' h2 h3)
  unfold Oper.wp execOp
  simp only [ho, resolve, invoke, builtin, Sem.run_bind, Sem.run_pure, Result.andThen_ok, List.map_toArray, List.map_cons, List.map_nil, hv, hx, hr]
  exact q
end
theorem lit_wd4 (x0 x1 x2 x3 : UInt32) (w : World) : (Instr.buildSlice 105 4 #[(0, wd x0), (1, wd x1), (2, wd x2), (3, wd x3)]).run Tryz.prog w =
    .ok (.slice (some ⟨w.heap.size, 0, none⟩) 4 4) (w.alloc (.cells (wv [x0, x1, x2, x3]) 57)) := by kernel_rfl
theorem own_words_lit (w : World) (l : List UInt32) (hl : l.length ≤ 1000000) : (w.alloc (.cells (wv l) 57)).ownsRow w.heap.size 57 1 (.slice (some ⟨w.heap.size, 0, none⟩) l.length l.length) l.length (l.map wd) := by
  have h := World.ownsRow_lit (e := 57) (base := w.heap.size) (size := 1) w (wv l) l.length (Nat.le_refl _) (by simp only [maxLen]; omega) (by rw [wv_size]; omega)
  have e : (wv l).toList = l.map wd := by simp [wv]
  rwa [e] at h

section
variable {ops : Array Oper} {rest : List Oper} {o : Oper} {a : Act} {w : World} {Q : Exit → Act → World → Prop}
theorem wp_lit_wd4 {K : Act → World → Prop} (p0 p1 p2 p3 : Operand) (ho : o.op = .buildSlice 105 4 #[(0, p0), (1, p1), (2, p2), (3, p3)]) (x0 x1 x2 x3 : UInt32)
    (h0 : a.eval p0 = wd x0) (h1 : a.eval p1 = wd x1) (h2 : a.eval p2 = wd x2) (h3 : a.eval p3 = wd x3)
    (h : ∀ w', Below w.heap.size w w' → Whole w' w.heap.size 57 (wv [x0, x1, x2, x3]) → w.grownBy w' none → K (a.put o.dst (.slice (some ⟨w.heap.size, 0, none⟩) 4 4)) w') : o.wp Tryz.prog a w K Q := by
  have q := h _ ((Below.refl _ _).alloc (Nat.le_refl _) _) (Whole.new w 57 (wv [x0, x1, x2, x3])) ⟨rfl, rfl, rfl, by simp, fun k hk _ => Below.heap_alloc w _ k hk⟩
  unfold Oper.wp execOp
  simp only [ho, List.map_toArray, List.map_cons, List.map_nil, h0, h1, h2, h3, lit_wd4, Sem.run_bind, Sem.run_pure, Result.andThen_ok, Oper.upon]
  exact q
theorem run_append_words (w : World) (base : Nat) (ty : TypeId) (v : Value) (n : Nat) (xs : List Value) (hown : w.ownsRow base 57 1 v n xs) (src : Value) (l : List UInt32) (hs : WordsAt w src l)
    (hlen : n + l.length ≤ 1000000) (hbase : base ≤ w.heap.size) :
    ∃ v' w', (Builtin.append_ #[105, 105] ty #[v, src]).run Tryz.prog w = .ok v' w' ∧ w'.ownsRow base 57 1 v' (n + l.length) (xs ++ l.map wd) ∧ w.grownBy w' v.ownBlock := by
  obtain ⟨i0, hi0, hz0, hz1, hz2⟩ := info_parts word_info
  obtain ⟨b, off, cap, rfl, hcap, hlt, hcell⟩ := hs
  obtain ⟨v', w', hr, ho, hg, _⟩ := run_append_own (P := Tryz.prog) w base 105 ty 57 i0 (.int .u32 0) 1 4 Tryz.underlying105 hi0 hz0 hz1 hz2 rfl (by decide) v n xs hown ⟨b, off, none⟩ l.length cap (l.map wd) (by simp) (fun j u hu => by
      have ha : (⟨b, off, none⟩ : Addr).add j = ⟨b, off + j, none⟩ := by unfold Addr.add; split <;> simp_all
      rw [ha]
      simp only [List.getElem?_map, Option.map_eq_some_iff] at hu
      obtain ⟨x, hx, rfl⟩ := hu
      exact hcell j x hx) (fun u hu => by
      simp only [List.mem_map] at hu
      obtain ⟨x, _, rfl⟩ := hu
      rfl) (by simp only [maxLen]; omega) (by omega) hbase
  exact ⟨v', w', hr, ho, hg⟩
theorem wp_append_words {K : Act → World → Prop} (s x : Operand) (ho : o.op = .call { callee := .builtin .append, args := #[s, x], argTypes := #[105, 105] })
    (base : Nat) (v : Value) (n : Nat) (xs : List Value) (hv : a.eval s = v) (hown : w.ownsRow base 57 1 v n xs) (src : Value) (l : List UInt32) (hx : a.eval x = src) (hs : WordsAt w src l) (hlen : n + l.length ≤ 1000000) (hbase : base ≤ w.heap.size)
    (h : ∀ v' w', w'.ownsRow base 57 1 v' (n + l.length) (xs ++ l.map wd) → w.grownBy w' v.ownBlock → K (a.put o.dst v') w') : o.wp Tryz.prog a w K Q := by
  obtain ⟨v', w', hr, h2, h3⟩ := run_append_words w base o.type v n xs hown src l hs hlen hbase
  unfold Oper.wp execOp
  simp only [ho, resolve, invoke, builtin, Sem.run_bind, Sem.run_pure, Result.andThen_ok, List.map_toArray, List.map_cons, List.map_nil, hv, hx, hr]
  exact h v' w' h2 h3
theorem wpList_append_words (hgd : o.guard = none) (s x : Operand) (ho : o.op = .call { callee := .builtin .append, args := #[s, x], argTypes := #[105, 105] })
    (base : Nat) (v : Value) (n : Nat) (xs : List Value) (hv : a.eval s = v) (hown : w.ownsRow base 57 1 v n xs) (src : Value) (l : List UInt32) (hx : a.eval x = src) (hs : WordsAt w src l) (hlen : n + l.length ≤ 1000000) (hbase : base ≤ w.heap.size)
    (h : ∀ v' w', w'.ownsRow base 57 1 v' (n + l.length) (xs ++ l.map wd) → w.grownBy w' v.ownBlock → wpList Tryz.prog ops Q rest (a.put o.dst v') w') : wpList Tryz.prog ops Q (o :: rest) a w :=
  wpList_plain hgd fun _ hK => wp_append_words s x ho base v n xs hv hown src l hx hs hlen hbase fun v' w' h2 h3 => hK _ _ (h v' w' h2 h3)
end
/-- A word stored among words of one's own. -/
theorem wp_store_own {o : Oper} {a : Act} {w : World} {Q : Exit → Act → World → Prop} {K : Act → World → Prop} (x y : Operand) (ho : o.op = .store 57 x y)
    (base g i n cap : Nat) (hx : a.eval x = .pointer (some ⟨g, i, none⟩)) (v : UInt32) (hy : a.eval y = wd v) (l : List UInt32) (hl : l.length = n) (hown : w.ownsRow base 57 1 (.slice (some ⟨g, 0, none⟩) n cap) n (l.map wd)) (hi : i < n)
    (h : ∀ w', w.grownBy w' (some g) → w'.ownsRow base 57 1 (.slice (some ⟨g, 0, none⟩) n cap) n ((l.set i v).map wd) → K (a.put o.dst undef) w') : o.wp Tryz.prog a w K Q := by
  have c1 : w.cell? ⟨g, i, none⟩ = some (wd (l[i]'(by omega))) := (hown.cellAt i (by omega)).trans (by simp [List.getElem?_eq_getElem (show i < l.length by omega)])
  have q := (hown.stored i (wd v)).1
  rw [show (l.map wd).set i (wd v) = (l.set i v).map wd by simp [List.map_set]] at q
  have hh := h _ (grown_store w g i (wd v)) q
  have hz : (sizeOf 57).run Tryz.prog w = .ok 1 w := by kernel_rfl
  unfold Oper.wp execOp
  have hc : (wd v).cells = #[wd v] := rfl
  simp only [ho, hx, hy, Instr.storeAt, Instr.sureAddr, storeVar, hc, Sem.run_bind, Sem.run_pure, Result.andThen_ok, hz, List.size_toArray, List.length_cons, List.length_nil, ne_eq, not_true_eq_false, if_false, store_wd w g i _ c1 (hown.frozenAt i) v, Oper.upon]
  exact hh
theorem WordsAt.at_ {w : World} {g off n cap : Nat} {l : List UInt32} (h : WordsAt w (.slice (some ⟨g, off, none⟩) n cap) l) (j : Nat) (x : UInt32) (hj : l[j]? = some x) : w.cell? ⟨g, off + j, none⟩ = some (wd x) := by
  obtain ⟨b, o, c, e, -, -, hc⟩ := h
  injection e with e1 _ _
  injection e1 with e1
  injection e1 with e1 e2 _
  subst e1 e2
  exact hc j x hj
end Go.Proofs.YtmnhpkdldeifgaaGreatDoor
