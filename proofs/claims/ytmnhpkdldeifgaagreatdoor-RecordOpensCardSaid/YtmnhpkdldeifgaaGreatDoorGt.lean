/- Rows and arrays of bytes whose block is known whole: made, read, copied into (builtin copy), as bytes of a slice. What the document's Open of layer 8 answers. What the texts of layer 8's statements lean on of package box, as one thing to prove: each call's answer; and what follows for texts that were sealed. -/
import Derived.Test.YtmnhpkdldeifgaaGreatDoorGn
import Derived.Laws.CopyRow
import Derived.Laws.IdiomCopy
import Derived.Test.YtmnhpkdldeifgaaGreatDoorGs
namespace Go.Proofs.YtmnhpkdldeifgaaGreatDoor
set_option maxRecDepth 100000
open Go.RowKit

theorem block_bytes {w : World} {g : Nat} {t : TypeId} {l : List UInt8} {n cap : Nat} (h : Whole w g t (bv l).toArray) (hn : n = l.length) (hc : n ≤ cap) : BytesAt w (.slice (some ⟨g, 0, none⟩) n cap) l := by
  subst hn
  refine ⟨_, _, rfl, hc, fun _ => ⟨_, rfl, fun j c hj => ?_⟩⟩
  have ha : (⟨g, 0, none⟩ : Addr).add j = ⟨g, j, none⟩ := by unfold Addr.add; split <;> simp_all
  rw [ha, h.at_ j]
  simp [bv, hj]
theorem block_cell {w : World} {g : Nat} {t : TypeId} {l : List UInt8} (h : Whole w g t (bv l).toArray) (i : Nat) (c : UInt8) (hc : l[i]? = some c) : w.cell? ⟨g, i, none⟩ = some (.int .u8 (c.toNat : Int)) := by
  rw [h.at_ i]
  simp [bv, hc]
theorem block_own {w : World} {base g n : Nat} {xs : List Value} (h : w.ownsRow base 5 1 (.slice (some ⟨g, 0, none⟩) n n) n xs) : Whole w g 5 xs.toArray := by
  rcases h.2 with ⟨h1, -⟩ | ⟨g', cap, cur, h1, -, h3, -, -, h6, h7⟩
  · cases h1
  · injection h1 with h1 _ h2
    injection h1 with h1
    injection h1 with h1
    subst h1 h2
    rw [Whole, h3, ← h7, List.take_of_length_le (by simp; omega)]
/-- The bytes from a place on. -/
theorem BytesAt.rest {w : World} {A : Option Addr} {n cap : Nat} {l : List UInt8} (h : BytesAt w (.slice A n cap) l) (m : Nat) (hm : m ≤ n) : BytesAt w (.slice (if cap = m then A else A.map (·.add m)) (n - m) (cap - m)) (l.drop m) := by
  obtain ⟨hn, hcap⟩ := h.size
  refine ⟨_, cap - m, by rw [List.length_drop, ← hn], by rw [List.length_drop]; omega, fun hne => ?_⟩
  have hl : l ≠ [] := by rintro rfl; simp at hne
  obtain ⟨b, off, rfl, _, hc⟩ := h.spots hl
  have hd : ¬ cap = m := by
    intro e
    apply hne
    apply List.drop_eq_nil_of_le
    omega
  have ha' : (⟨b, off, none⟩ : Addr).add m = ⟨b, off + m, none⟩ := by unfold Addr.add; split <;> simp_all
  rw [if_neg hd, Option.map_some, ha']
  refine ⟨_, rfl, fun j c hj => ?_⟩
  have ha : (⟨b, off + m, none⟩ : Addr).add j = ⟨b, off + (m + j), none⟩ := by unfold Addr.add; split <;> simp_all [Nat.add_assoc]
  rw [ha]
  rw [List.getElem?_drop] at hj
  exact hc _ c hj
theorem grown_same (w : World) (g : Nat) : w.grownBy w (some g) := ⟨rfl, rfl, rfl, Nat.le_refl _, fun _ _ _ => rfl⟩
/-- Bytes copied into a block. -/
theorem run_copy_in (w : World) (ty : TypeId) (g n cap : Nat) (t : TypeId) (L : List UInt8) (src : Value) (l : List UInt8) (hg : Whole w g t (bv L).toArray) (hL : L.length = n) (hs : BytesAt w src l) (m : Nat) (hmn : m = min l.length n) :
    ∃ w', (Builtin.copy_ #[25, 25] ty #[.slice (some ⟨g, 0, none⟩) n cap, src]).run Tryz.prog w = .ok (goInt (m : Int)) w' ∧ Whole w' g t (bv (l.take n ++ L.drop m)).toArray ∧ w.grownBy w' (some g) ∧ w'.heap.size = w.heap.size := by
  have bs : (Tryz.prog.info? 5).map (·.size) = some 1 := by kernel_rfl
  subst hmn
  obtain ⟨A, c, rfl, -, hc⟩ := hs
  by_cases h0 : min l.length n = 0
  · have q := run_copy_none (P := Tryz.prog) w 25 25 ty 5 (some ⟨g, 0, none⟩) A n cap l.length c Tryz.underlying25 bs h0
    have e : l.take n ++ L.drop (min l.length n) = L := by
      rw [h0]
      have : l.take n = [] := by
        apply List.eq_nil_of_length_eq_zero
        rw [List.length_take]
        omega
      rw [this]
      rfl
    refine ⟨w, ?_, by rw [e]; exact hg, grown_same w g, rfl⟩
    rw [h0]
    exact q
  · obtain ⟨ad, rfl, hcell⟩ := hc (by intro e; subst e; simp at h0)
    have hm : (bv (l.take n)).length = Nat.min l.length n := by rw [bv_length, List.length_take, Nat.min_comm]
    have q := run_copy_row (P := Tryz.prog) w 25 25 ty 5 g 0 n cap ad l.length c (bv L).toArray t (bv (l.take n)) Tryz.underlying25 bs hg hm (fun j v hj => by
      simp only [bv, List.getElem?_map, Option.map_eq_some_iff] at hj
      obtain ⟨x, hx, rfl⟩ := hj
      have hjn : j < n := by
        have := (List.getElem?_eq_some_iff.1 hx).1
        rw [List.length_take] at this
        omega
      rw [List.getElem?_take_of_lt hjn] at hx
      exact hcell j x hx) (by simp [bv_length]; omega) (bv_one _)
    rw [hm] at q
    refine ⟨_, q, ?_, grown_setRow w g _, by simp⟩
    have q2 := hg.setRow (cs := ((bv L).toArray.toList.take 0 ++ bv (l.take n) ++ (bv L).toArray.toList.drop (0 + Nat.min l.length n)).toArray)
    have e : bv (l.take n ++ L.drop (min l.length n)) = (bv L).toArray.toList.take 0 ++ bv (l.take n) ++ (bv L).toArray.toList.drop (0 + Nat.min l.length n) := by
      rw [bv_append, List.take_zero, List.nil_append, Nat.zero_add]
      simp only [bv, List.map_drop]
    rw [e]
    exact q2

section
variable {ops : Array Oper} {rest : List Oper} {o : Oper} {a : Act} {w : World} {Q : Exit → Act → World → Prop}
/-- Zero bytes are made: a block of one's own. -/
theorem wpList_make_block (hgd : o.guard = none) (l c : Operand) (ho : o.op = .makeSlice 25 l c) (n : Nat) (hl : a.eval l = .int .i64 (n : Int)) (hc : a.eval c = .int .i64 (n : Int)) (hn : n ≤ 10000000)
    (h : ∀ w', Whole w' w.heap.size 5 (bv (List.replicate n 0)).toArray → Below w.heap.size w w' → w.heap.size < w'.heap.size → wpList Tryz.prog ops Q rest (a.put o.dst (.slice (some ⟨w.heap.size, 0, none⟩) n n)) w') : wpList Tryz.prog ops Q (o :: rest) a w :=
  wpList_make_row hgd l c ho n hl hc hn fun w' h1 h2 h3 => h w' (block_own h1) h2 h3
/-- A byte stored into a place of a row that is known. -/
theorem wpList_put_at (hgd : o.guard = none) (x y : Operand) (ho : o.op = .store 5 x y)
    (g i : Nat) (hx : a.eval x = .pointer (some ⟨g, i, none⟩)) (c : UInt8) (hy : a.eval y = .int .u8 (c.toNat : Int)) (t : TypeId) (cs : Array Value) (hg : Whole w g t cs) (old : Value) (hi : cs[i]? = some old)
    (h : ∀ w', w.grownBy w' (some g) → Whole w' g t (cs.setIfInBounds i (.int .u8 (c.toNat : Int))) → w'.heap.size = w.heap.size → wpList Tryz.prog ops Q rest (a.put o.dst undef) w') : wpList Tryz.prog ops Q (o :: rest) a w := by
  refine wpList_plain hgd fun K hK => ?_
  have c1 : w.cell? ⟨g, i, none⟩ = some old := (hg.at_ i).trans hi
  have hh := hK _ _ (h _ (grown_store w g i (.int .u8 (c.toNat : Int))) (hg.stored i _) (by simp))
  have hz : (sizeOf 5).run Tryz.prog w = .ok 1 w := by kernel_rfl
  unfold Oper.wp execOp
  have hc : (Value.int .u8 (c.toNat : Int)).cells = #[.int .u8 (c.toNat : Int)] := rfl
  simp only [ho, hx, hy, Instr.storeAt, Instr.sureAddr, storeVar, hc, Sem.run_bind, Sem.run_pure, Result.andThen_ok, hz, List.size_toArray, List.length_cons, List.length_nil, ne_eq, not_true_eq_false, if_false, store_byte_at w g i _ c1 (hg.free i) c, Oper.upon]
  exact hh
end
/-- Bytes of a known row, one of them changed. -/
theorem bytes_changed {w : World} {g off cap j : Nat} {t : TypeId} {cs : Array Value} {T : List UInt8} {d : UInt8} (hw : Whole w g t (cs.setIfInBounds (off + j) (.int .u8 (d.toNat : Int)))) (hcell : ∀ i c, T[i]? = some c → cs[off + i]? = some (.int .u8 (c.toNat : Int))) (hj : j < T.length) (hc : T.length ≤ cap) :
    BytesAt w (.slice (some ⟨g, off, none⟩) T.length cap) (T.set j d) := by
  have hlen : (T.set j d).length = T.length := by rw [List.length_set]
  refine ⟨_, cap, by rw [hlen], by rw [hlen]; exact hc, fun _ => ⟨_, rfl, fun i x hd => ?_⟩⟩
  have ha : (⟨g, off, none⟩ : Addr).add i = ⟨g, off + i, none⟩ := by unfold Addr.add; split <;> simp_all
  rw [ha, hw.at_]
  rw [List.getElem?_set] at hd
  by_cases e : j = i
  · subst e
    simp only [if_true, hj] at hd
    injection hd with hd
    subst hd
    have hsz : off + j < cs.size := (Array.getElem?_eq_some_iff.1 (hcell j _ (List.getElem?_eq_getElem hj))).1
    simp [hsz]
  · rw [if_neg e] at hd
    rw [Array.getElem?_setIfInBounds_ne (by omega)]
    exact hcell i x hd
end Go.Proofs.YtmnhpkdldeifgaaGreatDoor

namespace Go.Proofs.YtmnhpkdldeifgaaGreatDoor
set_option maxRecDepth 100000
open Go.RowKit

theorem refOpen_bad (A0 A1 : Option Addr) (n0 n1 cap0 cap1 : Nat) (v2 v3 : Value) (h : n0 ≠ 32 ∨ n1 ≠ 12) (w : World) :
    Calls Tryz.prog 23 #[.slice A0 n0 cap0, .slice A1 n1 cap1, v2, v3] w fun e w' => e = .returned (.tuple #[.slice none 0 0, .int .i64 2]) ∧ Below w.heap.size w w' := by
  by_cases h0 : n0 = 32
  · subst h0
    have d1 : ((n1 : Int) != 12) = true := by simp; omega
    have d2 : ¬ (n1 = 12) := by omega
    go_enter Tryz.func23, Tryz.ntmps23
    go_wp2
    go_ret2
    exact ⟨rfl, Below.refl _ _⟩
  · have d0 : ((n0 : Int) != 32) = true := by simp; omega
    go_enter Tryz.func23, Tryz.ntmps23
    go_wp2
    go_ret2
    exact ⟨rfl, Below.refl _ _⟩
theorem refOpen_short (A0 A1 A3 : Option Addr) (n3 cap0 cap1 cap3 : Nat) (v2 : Value) (h : n3 < 16) (w : World) :
    Calls Tryz.prog 23 #[.slice A0 32 cap0, .slice A1 12 cap1, v2, .slice A3 n3 cap3] w fun e w' => e = .returned (.tuple #[.slice none 0 0, .int .i64 10]) ∧ Below w.heap.size w w' := by
  have d1 : decide ((n3 : Int) < 16) = true := by simp; omega
  go_enter Tryz.func23, Tryz.ntmps23
  go_wp2
  go_ret2
  exact ⟨rfl, Below.refl _ _⟩

set_option maxRecDepth 100000 in
set_option maxHeartbeats 2000000 in
theorem refOpen_any (A0 A1 A2 A3 : Option Addr) (n2 m cap0 cap1 cap2 cap3 : Nat) (key nonce wth sealed : List UInt8) (w : World) (hn2 : n2 ≤ 100000) (hn3 : m ≤ 100000)
    (h0 : BytesAt w (.slice A0 32 cap0) key) (h1 : BytesAt w (.slice A1 12 cap1) nonce) (h2 : BytesAt w (.slice A2 n2 cap2) wth) (h3 : BytesAt w (.slice A3 (m + 16) cap3) sealed) :
    Calls Tryz.prog 23 #[.slice A0 32 cap0, .slice A1 12 cap1, .slice A2 n2 cap2, .slice A3 (m + 16 : Nat) cap3] w fun e w' => ∃ v', e = .returned (.tuple #[v', .int .i64 (if boxTag key nonce wth (sealed.take m) = sealed.drop m then 0 else 21)]) ∧ BytesAt w' v' (if boxTag key nonce wth (sealed.take m) = sealed.drop m then xorC key nonce 1 (sealed.take m) else []) ∧ Below w.heap.size w w' := by
  have H0 := Lib.hid h0
  have H1 := Lib.hid h1
  have H2 := Lib.hid h2
  obtain ⟨s1, s2⟩ := h3.size
  have HT := Lib.hid (h3.first m (by omega))
  have HD := h3.rest m (by omega)
  rw [if_neg (show ¬ cap3 = m by omega), Nat.add_sub_cancel_left] at HD
  obtain ⟨ad, rfl, -⟩ := h3.lt (by intro e; rw [e] at s1; simp at s1)
  obtain ⟨T, hT⟩ : ∃ T, T = sealed.take m := ⟨_, rfl⟩
  obtain ⟨D, hD⟩ : ∃ D, D = sealed.drop m := ⟨_, rfl⟩
  rw [← hT] at HT ⊢
  rw [← hD] at HD ⊢
  rw [Option.map_some] at HD
  have CD := fun w' (hw : Below w.heap.size w w') => conv_bytes (HD.below hw)
  obtain ⟨n3, hn⟩ : ∃ n3, n3 = m + 16 := ⟨_, rfl⟩
  rw [← hn]
  have d1 : decide ((n3 : Int) < 16) = false := by simp; omega
  have r1 : IntKind.i64.wrap ((n3 : Int) - 16) = (m : Int) := by rw [IntWalk.i64_in _ (by omega)]; omega
  have j1 : (m : Int) ≤ (n3 : Int) := by omega
  have j2 : (m : Int) ≤ (cap3 : Int) := by omega
  have j3 : (n3 : Int) ≤ (cap3 : Int) := by omega
  have j4 : cap3 ≠ m := by omega
  have j5 : n3 - m = 16 := by omega
  clear h0 h1 h2 h3 HD hT hD hn s1
  obtain ⟨G, hG⟩ : ∃ G, G = boxTag key nonce wth T := ⟨_, rfl⟩
  have HG := Lib.hid hG
  rw [← hG]
  clear hG
  by_cases hg : G = D
  · have hb : (G == D) = true := by rw [beq_iff_eq]; exact hg
    rw [if_pos hg, if_pos hg]
    clear hg
    go_enter Tryz.func23, Tryz.ntmps23
    go_wp2_with fail
    refine regS_begin (fun w' => Below w.heap.size w w') (by kernel_rfl) ((Below.refl _ _).drew) ?_
    have hS : Below w.heap.size w w.drew := (Below.refl _ _).drew
    generalize w.drew = w1 at *
    have XC := fun w' (hw : Below w.heap.size w w') => Lib.hid (refXor_any A0 A1 (some ad) m cap0 cap1 cap3 key nonce T 1 (by have : (1 : UInt32).toNat = 1 := rfl; omega) (by omega) w' (H0.out.below hw) (H1.out.below hw) (HT.out.below hw))
    refine regS_take (i := 0) (v := ?_) rfl (by kernel_rfl) (by kernel_rfl) (by kernel_rfl) (fun _ _ _ h => h) (by rfl) hS ?hy0 ?_
    case hy0 => intro w' hw'; go_simp; (try with_reducible rfl)
    simp only [Act.put, List.setIfInBounds_toArray, List.set_cons_zero, List.set_cons_succ]
    refine regS_take (i := 1) (v := ?_) rfl (by kernel_rfl) (by kernel_rfl) (by kernel_rfl) (fun _ _ _ h => h) (by rfl) hS ?hy1 ?_
    case hy1 => intro w' hw'; go_simp; (try with_reducible rfl)
    simp only [Act.put, List.setIfInBounds_toArray, List.set_cons_zero, List.set_cons_succ]
    refine regS_take (i := 2) (v := ?_) rfl (by kernel_rfl) (by kernel_rfl) (by kernel_rfl) (fun _ _ _ h => h) (by rfl) hS ?hy2 ?_
    case hy2 => intro w' hw'; go_simp; (try with_reducible rfl)
    simp only [Act.put, List.setIfInBounds_toArray, List.set_cons_zero, List.set_cons_succ]
    refine regS_take (i := 3) (v := ?_) rfl (by kernel_rfl) (by kernel_rfl) (by kernel_rfl) (fun _ _ _ h => h) (by rfl) hS ?hy3 ?_
    case hy3 => intro w' hw'; go_simp; (try with_reducible rfl)
    simp only [Act.put, List.setIfInBounds_toArray, List.set_cons_zero, List.set_cons_succ]
    refine regS_take (i := 6) (v := ?_) rfl (by kernel_rfl) (by kernel_rfl) (by kernel_rfl) (fun _ _ _ h => h) (by rfl) hS ?hy6 ?_
    case hy6 => intro w' hw'; go_simp; (try with_reducible rfl)
    simp only [Act.put, List.setIfInBounds_toArray, List.set_cons_zero, List.set_cons_succ]
    refine regS_take (i := 7) (v := ?_) rfl (by kernel_rfl) (by kernel_rfl) (by kernel_rfl) (fun _ _ _ h => h) (by rfl) hS ?hy7 ?_
    case hy7 => intro w' hw'; go_simp; (try with_reducible rfl)
    simp only [Act.put, List.setIfInBounds_toArray, List.set_cons_zero, List.set_cons_succ]
    refine regS_take (i := 8) (v := ?_) rfl (by kernel_rfl) (by kernel_rfl) (by kernel_rfl) (fun _ _ _ h => h) (by rfl) hS ?hy8 ?_
    case hy8 => intro w' hw'; go_simp; (try with_reducible rfl)
    simp only [Act.put, List.setIfInBounds_toArray, List.set_cons_zero, List.set_cons_succ]
    refine regS_take (i := 9) (v := ?_) rfl (by kernel_rfl) (by kernel_rfl) (by kernel_rfl) (fun _ _ _ h => h) (by rfl) hS ?hy9 ?_
    case hy9 => intro w' hw'; go_simp; (try with_reducible rfl)
    simp only [Act.put, List.setIfInBounds_toArray, List.set_cons_zero, List.set_cons_succ]
    refine regS_take (i := 10) (v := ?_) rfl (by kernel_rfl) (by kernel_rfl) (by kernel_rfl) (fun _ _ _ h => h) (by rfl) hS ?hy10 ?_
    case hy10 => intro w' hw'; go_simp; (try with_reducible rfl)
    simp only [Act.put, List.setIfInBounds_toArray, List.set_cons_zero, List.set_cons_succ]
    refine regS_do (i := 4) rfl (by kernel_rfl) (fun K' hK => ?_)
    go_simp
    refine (refBoxTag_any A0 A1 A2 (some ad) n2 m cap0 cap1 cap2 cap3 key nonce wth T w1 hn2 hn3 (H0.out.below hS) (H1.out.below hS) (H2.out.below hS) (HT.out.below hS)).mono ?_
    rintro e w2 ⟨v2, rfl, y2, b2⟩
    have s2 : Below w.heap.size w w2 := hS.trans (b2.mono hS.size)
    have r2 := conv_bytes y2
    rw [← HG.out] at r2
    refine hK.out _ _ s2 ?_
    clear hK K' b2 hS CD y2
    have hS := s2
    clear s2
    refine regS_do (i := 5) rfl (by kernel_rfl) (fun K' hK => ?_)
    go_simp
    refine hK.out _ _ hS ?_
    clear hK K' r2
    refine regS_take (i := 11) (v := ?_) rfl (by kernel_rfl) (by kernel_rfl) (by kernel_rfl) (fun _ _ _ h => h) (by rfl) hS ?hy11 ?_
    case hy11 => intro w' hw'; go_simp; (try with_reducible rfl)
    simp only [Act.put, List.setIfInBounds_toArray, List.set_cons_zero, List.set_cons_succ]
    refine regS_end (by kernel_rfl) ?_
    have B2 := Lib.hid hS
    have XC3 : Hid (Calls Tryz.prog 37 #[.slice A0 32 cap0, .slice A1 12 cap1, .int .u32 1, .slice (some ad) m cap3] w2 _) := Lib.hid (XC w2 hS).out
    clear hS XC
    go_wp2_with fail
    refine XC3.out.mono ?_
    rintro e w3 ⟨v3, rfl, y3, b3⟩
    have Y3 := Lib.hid y3
    have B3 := Lib.hid (B2.out.trans (b3.mono B2.out.size))
    clear y3 b3 XC3
    go_wp2
    go_ret2
    exact ⟨_, rfl, Y3.out, B3.out⟩
  · have hb : (G == D) = false := by rw [beq_eq_false_iff_ne]; exact hg
    rw [if_neg hg, if_neg hg]
    clear hg
    go_enter Tryz.func23, Tryz.ntmps23
    go_wp2_with fail
    refine regS_begin (fun w' => Below w.heap.size w w') (by kernel_rfl) ((Below.refl _ _).drew) ?_
    have hS : Below w.heap.size w w.drew := (Below.refl _ _).drew
    generalize w.drew = w1 at *
    have XC := fun w' (hw : Below w.heap.size w w') => Lib.hid (refXor_any A0 A1 (some ad) m cap0 cap1 cap3 key nonce T 1 (by have : (1 : UInt32).toNat = 1 := rfl; omega) (by omega) w' (H0.out.below hw) (H1.out.below hw) (HT.out.below hw))
    refine regS_take (i := 0) (v := ?_) rfl (by kernel_rfl) (by kernel_rfl) (by kernel_rfl) (fun _ _ _ h => h) (by rfl) hS ?hy0 ?_
    case hy0 => intro w' hw'; go_simp; (try with_reducible rfl)
    simp only [Act.put, List.setIfInBounds_toArray, List.set_cons_zero, List.set_cons_succ]
    refine regS_take (i := 1) (v := ?_) rfl (by kernel_rfl) (by kernel_rfl) (by kernel_rfl) (fun _ _ _ h => h) (by rfl) hS ?hy1 ?_
    case hy1 => intro w' hw'; go_simp; (try with_reducible rfl)
    simp only [Act.put, List.setIfInBounds_toArray, List.set_cons_zero, List.set_cons_succ]
    refine regS_take (i := 2) (v := ?_) rfl (by kernel_rfl) (by kernel_rfl) (by kernel_rfl) (fun _ _ _ h => h) (by rfl) hS ?hy2 ?_
    case hy2 => intro w' hw'; go_simp; (try with_reducible rfl)
    simp only [Act.put, List.setIfInBounds_toArray, List.set_cons_zero, List.set_cons_succ]
    refine regS_take (i := 3) (v := ?_) rfl (by kernel_rfl) (by kernel_rfl) (by kernel_rfl) (fun _ _ _ h => h) (by rfl) hS ?hy3 ?_
    case hy3 => intro w' hw'; go_simp; (try with_reducible rfl)
    simp only [Act.put, List.setIfInBounds_toArray, List.set_cons_zero, List.set_cons_succ]
    refine regS_take (i := 6) (v := ?_) rfl (by kernel_rfl) (by kernel_rfl) (by kernel_rfl) (fun _ _ _ h => h) (by rfl) hS ?hy6 ?_
    case hy6 => intro w' hw'; go_simp; (try with_reducible rfl)
    simp only [Act.put, List.setIfInBounds_toArray, List.set_cons_zero, List.set_cons_succ]
    refine regS_take (i := 7) (v := ?_) rfl (by kernel_rfl) (by kernel_rfl) (by kernel_rfl) (fun _ _ _ h => h) (by rfl) hS ?hy7 ?_
    case hy7 => intro w' hw'; go_simp; (try with_reducible rfl)
    simp only [Act.put, List.setIfInBounds_toArray, List.set_cons_zero, List.set_cons_succ]
    refine regS_take (i := 8) (v := ?_) rfl (by kernel_rfl) (by kernel_rfl) (by kernel_rfl) (fun _ _ _ h => h) (by rfl) hS ?hy8 ?_
    case hy8 => intro w' hw'; go_simp; (try with_reducible rfl)
    simp only [Act.put, List.setIfInBounds_toArray, List.set_cons_zero, List.set_cons_succ]
    refine regS_take (i := 9) (v := ?_) rfl (by kernel_rfl) (by kernel_rfl) (by kernel_rfl) (fun _ _ _ h => h) (by rfl) hS ?hy9 ?_
    case hy9 => intro w' hw'; go_simp; (try with_reducible rfl)
    simp only [Act.put, List.setIfInBounds_toArray, List.set_cons_zero, List.set_cons_succ]
    refine regS_take (i := 10) (v := ?_) rfl (by kernel_rfl) (by kernel_rfl) (by kernel_rfl) (fun _ _ _ h => h) (by rfl) hS ?hy10 ?_
    case hy10 => intro w' hw'; go_simp; (try with_reducible rfl)
    simp only [Act.put, List.setIfInBounds_toArray, List.set_cons_zero, List.set_cons_succ]
    refine regS_do (i := 4) rfl (by kernel_rfl) (fun K' hK => ?_)
    go_simp
    refine (refBoxTag_any A0 A1 A2 (some ad) n2 m cap0 cap1 cap2 cap3 key nonce wth T w1 hn2 hn3 (H0.out.below hS) (H1.out.below hS) (H2.out.below hS) (HT.out.below hS)).mono ?_
    rintro e w2 ⟨v2, rfl, y2, b2⟩
    have s2 : Below w.heap.size w w2 := hS.trans (b2.mono hS.size)
    have r2 := conv_bytes y2
    rw [← HG.out] at r2
    refine hK.out _ _ s2 ?_
    clear hK K' b2 hS CD y2
    have hS := s2
    clear s2
    refine regS_do (i := 5) rfl (by kernel_rfl) (fun K' hK => ?_)
    go_simp
    refine hK.out _ _ hS ?_
    clear hK K' r2
    refine regS_take (i := 11) (v := ?_) rfl (by kernel_rfl) (by kernel_rfl) (by kernel_rfl) (fun _ _ _ h => h) (by rfl) hS ?hy11 ?_
    case hy11 => intro w' hw'; go_simp; (try with_reducible rfl)
    simp only [Act.put, List.setIfInBounds_toArray, List.set_cons_zero, List.set_cons_succ]
    refine regS_end (by kernel_rfl) ?_
    have B2 := Lib.hid hS
    clear hS XC
    go_wp2
    go_ret2
    exact ⟨_, rfl, BytesAt.nil _, B2.out⟩

theorem refOpen_all (A0 A1 A2 A3 : Option Addr) (n0 n1 n2 n3 cap0 cap1 cap2 cap3 : Nat) (key nonce wth sealed : List UInt8) (w : World) (hn2 : n2 ≤ 100000) (hn3 : n3 ≤ 100000)
    (h0 : BytesAt w (.slice A0 n0 cap0) key) (h1 : BytesAt w (.slice A1 n1 cap1) nonce) (h2 : BytesAt w (.slice A2 n2 cap2) wth) (h3 : BytesAt w (.slice A3 n3 cap3) sealed) :
    Calls Tryz.prog 23 #[.slice A0 n0 cap0, .slice A1 n1 cap1, .slice A2 n2 cap2, .slice A3 n3 cap3] w fun e w' => ∃ v', e = .returned (.tuple #[v', .int .i64 (opC n0 n1 key nonce wth sealed)]) ∧ BytesAt w' v' (opA n0 n1 key nonce wth sealed) ∧ Below w.heap.size w w' := by
  by_cases h : n0 ≠ 32 ∨ n1 ≠ 12
  · rw [opA, opC, if_pos h, if_pos h]
    exact (refOpen_bad A0 A1 n0 n1 cap0 cap1 _ _ h w).mono fun _ _ ⟨he, hb⟩ => ⟨_, he, BytesAt.nil _, hb⟩
  · rw [opA, opC, if_neg h, if_neg h]
    obtain rfl : n0 = 32 := by omega
    obtain rfl : n1 = 12 := by omega
    obtain ⟨rfl, -⟩ := h3.size
    by_cases hs : sealed.length < 16
    · rw [if_pos hs, if_pos hs]
      exact (refOpen_short A0 A1 A3 _ cap0 cap1 cap3 _ hs w).mono fun _ _ ⟨he, hb⟩ => ⟨_, he, BytesAt.nil _, hb⟩
    · rw [if_neg hs, if_neg hs]
      have e : sealed.length = (sealed.length - 16) + 16 := by omega
      rw [e] at h3 ⊢
      exact refOpen_any A0 A1 A2 A3 n2 (sealed.length - 16) cap0 cap1 cap2 cap3 key nonce wth sealed w hn2 (by omega) h0 h1 h2 h3
end Go.Proofs.YtmnhpkdldeifgaaGreatDoor

namespace Go.Proofs.YtmnhpkdldeifgaaGreatDoor
set_option maxRecDepth 100000
open Go.RowKit

structure BoxIs : Prop where
  nonce : ∀ (n : Nat) (w : World) (_ : n < 18446744073709551616),
    Calls Tryz.prog 29 #[.int .u64 (n : Int)] w fun e w' => ∃ v', e = .returned v' ∧ BytesAt w' v' (nonceB n) ∧ Below w.heap.size w w'
  sealBad : ∀ (A0 A1 A2 A3 : Option Addr) (n0 n1 n2 n3 cap0 cap1 cap2 cap3 : Nat) (key nonce wth msg : List UInt8) (w : World) (_ : n0 ≠ 32 ∨ n1 ≠ 12) (_ : n2 ≤ 100000) (_ : n3 ≤ 100000)
    (_ : BytesAt w (.slice A0 n0 cap0) key) (_ : BytesAt w (.slice A1 n1 cap1) nonce) (_ : BytesAt w (.slice A2 n2 cap2) wth) (_ : BytesAt w (.slice A3 n3 cap3) msg),
    Calls Tryz.prog 13 #[.slice A0 n0 cap0, .slice A1 n1 cap1, .slice A2 n2 cap2, .slice A3 n3 cap3] w fun e w' => ∃ v', e = .returned (.tuple #[v', .int .i64 2]) ∧ BytesAt w' v' [] ∧ Below w.heap.size w w'
  seals : ∀ (A0 A1 A2 A3 : Option Addr) (n2 n3 cap0 cap1 cap2 cap3 : Nat) (key nonce wth msg : List UInt8) (w : World) (_ : n2 ≤ 100000) (_ : n3 ≤ 100000)
    (_ : BytesAt w (.slice A0 32 cap0) key) (_ : BytesAt w (.slice A1 12 cap1) nonce) (_ : BytesAt w (.slice A2 n2 cap2) wth) (_ : BytesAt w (.slice A3 n3 cap3) msg),
    Calls Tryz.prog 13 #[.slice A0 32 cap0, .slice A1 12 cap1, .slice A2 n2 cap2, .slice A3 n3 cap3] w fun e w' => ∃ v', e = .returned (.tuple #[v', .int .i64 0]) ∧ Fresh w' w.heap.size v' (sealC key nonce wth msg) ∧ Below w.heap.size w w'
  opens : ∀ (A0 A1 A2 A3 : Option Addr) (n0 n1 n2 n3 cap0 cap1 cap2 cap3 : Nat) (key nonce wth sealed : List UInt8) (w : World) (_ : n2 ≤ 100000) (_ : n3 ≤ 100000)
    (_ : BytesAt w (.slice A0 n0 cap0) key) (_ : BytesAt w (.slice A1 n1 cap1) nonce) (_ : BytesAt w (.slice A2 n2 cap2) wth) (_ : BytesAt w (.slice A3 n3 cap3) sealed),
    Calls Tryz.prog 21 #[.slice A0 n0 cap0, .slice A1 n1 cap1, .slice A2 n2 cap2, .slice A3 n3 cap3] w fun e w' => ∃ v', e = .returned (.tuple #[v', .int .i64 (opC n0 n1 key nonce wth sealed)]) ∧ BytesAt w' v' (opA n0 n1 key nonce wth sealed) ∧ Below w.heap.size w w'

theorem BoxIs.sealAll (H : BoxIs) (A0 A1 A2 A3 : Option Addr) (n0 n1 n2 n3 cap0 cap1 cap2 cap3 : Nat) (key nonce wth msg : List UInt8) (w : World) (hn2 : n2 ≤ 100000) (hn3 : n3 ≤ 100000)
    (h0 : BytesAt w (.slice A0 n0 cap0) key) (h1 : BytesAt w (.slice A1 n1 cap1) nonce) (h2 : BytesAt w (.slice A2 n2 cap2) wth) (h3 : BytesAt w (.slice A3 n3 cap3) msg) :
    Calls Tryz.prog 13 #[.slice A0 n0 cap0, .slice A1 n1 cap1, .slice A2 n2 cap2, .slice A3 n3 cap3] w fun e w' => ∃ v', e = .returned (.tuple #[v', .int .i64 (seC n0 n1)]) ∧ BytesAt w' v' (seA n0 n1 key nonce wth msg) ∧ Below w.heap.size w w' := by
  by_cases h : n0 ≠ 32 ∨ n1 ≠ 12
  · rw [seA, seC, if_pos h, if_pos h]
    exact H.sealBad A0 A1 A2 A3 n0 n1 n2 n3 cap0 cap1 cap2 cap3 key nonce wth msg w h hn2 hn3 h0 h1 h2 h3
  · rw [seA, seC, if_neg h, if_neg h]
    obtain rfl : n0 = 32 := by omega
    obtain rfl : n1 = 12 := by omega
    exact (H.seals A0 A1 A2 A3 n2 n3 cap0 cap1 cap2 cap3 key nonce wth msg w hn2 hn3 h0 h1 h2 h3).mono fun _ _ ⟨v', he, hf, hb⟩ => ⟨v', he, hf.bytes, hb⟩

theorem seal_take (key nonce wth msg : List UInt8) : (sealC key nonce wth msg).take ((sealC key nonce wth msg).length - 16) = xorC key nonce 1 msg := by
  rw [sealC_length, Nat.add_sub_cancel, sealC]
  exact List.take_left' (xorC_length ..)
theorem seal_drop (key nonce wth msg : List UInt8) : (sealC key nonce wth msg).drop ((sealC key nonce wth msg).length - 16) = boxTag key nonce wth (xorC key nonce 1 msg) := by
  rw [sealC_length, Nat.add_sub_cancel, sealC]
  exact List.drop_left' (xorC_length ..)
theorem seal_good (key nonce wth msg : List UInt8) : goodTag key nonce wth (sealC key nonce wth msg) := by
  rw [goodTag, seal_take, seal_drop]
theorem seal_opens (key nonce wth msg : List UInt8) : opC 32 12 key nonce wth (sealC key nonce wth msg) = 0 ∧ opA 32 12 key nonce wth (sealC key nonce wth msg) = msg := by
  have h1 : ¬ ((32 : Nat) ≠ 32 ∨ (12 : Nat) ≠ 12) := by decide
  have h2 : ¬ (sealC key nonce wth msg).length < 16 := by rw [sealC_length]; omega
  rw [opC, opA, if_neg h1, if_neg h1, if_neg h2, if_neg h2, if_pos (seal_good ..), if_pos (seal_good ..), seal_take, xorC_xorC]
  exact ⟨rfl, rfl⟩
/-- With one byte of its tag changed it is not opened. -/
theorem seal_changed (key nonce wth msg : List UInt8) (i : Nat) (x : UInt8) (hi : i < 16) (hx : (boxTag key nonce wth (xorC key nonce 1 msg))[i]? ≠ some x) :
    opC 32 12 key nonce wth ((sealC key nonce wth msg).set (msg.length + i) x) = 21 ∧ opA 32 12 key nonce wth ((sealC key nonce wth msg).set (msg.length + i) x) = [] := by
  have h1 : ¬ ((32 : Nat) ≠ 32 ∨ (12 : Nat) ≠ 12) := by decide
  have hl : ((sealC key nonce wth msg).set (msg.length + i) x).length = msg.length + 16 := by rw [List.length_set, sealC_length]
  have h2 : ¬ ((sealC key nonce wth msg).set (msg.length + i) x).length < 16 := by omega
  have hxl : (xorC key nonce 1 msg).length = msg.length := xorC_length ..
  have es : (sealC key nonce wth msg).set (msg.length + i) x = xorC key nonce 1 msg ++ (boxTag key nonce wth (xorC key nonce 1 msg)).set i x := by
    rw [sealC, List.set_append_right _ _ (by omega), hxl, Nat.add_sub_cancel_left]
  have h3 : ¬ goodTag key nonce wth ((sealC key nonce wth msg).set (msg.length + i) x) := by
    rw [goodTag, hl, Nat.add_sub_cancel, es, List.take_left' hxl, List.drop_left' hxl]
    intro e
    apply hx
    rw [e, List.getElem?_set_self (by rw [boxTag_length]; exact hi)]
  rw [opC, opA, if_neg h1, if_neg h1, if_neg h2, if_neg h2, if_neg h3, if_neg h3]
  exact ⟨rfl, rfl⟩
end Go.Proofs.YtmnhpkdldeifgaaGreatDoor
