/- Package msg: what putFlag, putEntries, putItems put behind a row of the call's own. msg.reader as a structure whose cells are not all flat: its cells, in a block. (Written by tools/mkrec.py.) -/
import Derived.Test.YtnjeopgcpffkcaaGm
import Derived.Test.YtnjeopgcpffkcaaGq
import Derived.Test.YtnjeopgcpffkcaaGr
import Derived.Deep.LoopGhost
import Derived.Test.YtnjeopgcpffkcaaGl
namespace Go.Proofs.Ytnjeopgcpffkcaa
set_option maxRecDepth 100000
open Go.RowKit

/-- A row of the call's own is just these bytes. -/
abbrev OwnB (w : World) (base : Nat) (v : Value) (l : List UInt8) : Prop := w.ownsRow base 5 1 v l.length (bv l)
theorem OwnB.below {w w' : World} {base : Nat} {v : Value} {l : List UInt8} (h : OwnB w base v l) (b : Below w.heap.size w w') : OwnB w' base v l := kept_below h b rfl

theorem Moves.new {F F' : Nat → Prop} {w w1 w2 : World} {g : Nat} (m : Moves F F' w w1) (q : w1.grownBy w2 (some g)) (hg : w.heap.size ≤ g) : Moves F F' w w2 :=
  ⟨m.keeps.then (Keeps.of_grown (F := fun i => i = g) q (fun k e => .inl (by injection e with e; exact e.symm))) (fun i e => .inr (by omega)), m.foot⟩
theorem Moves.old {W w w' : World} {base : Nat} {v u : Value} {l : List UInt8} (m : Moves (VF v) (VF u) w w') (hB : W.heap.size ≤ base) (h : OwnB w base v l) (b : Below W.heap.size W w) : Below W.heap.size W w' :=
  b.trans (m.keeps.below (fun i hi => Nat.le_trans hB (h.lt i hi).1) b.size)

set_option maxHeartbeats 1000000 in
theorem putFlag_any (base : Nat) (v : Value) (l : List UInt8) (b : Bool) (w : World) (hown : OwnB w base v l) (hb : base ≤ w.heap.size) (hl : l.length ≤ 100000) :
    Calls Try.prog 57 #[v, .bool b] w fun e w' => ∃ v', e = .returned v' ∧ OwnB w' base v' (l ++ flagL b) ∧ Moves (VF v) (VF v') w w' := by
  have C0 := Lib.hid (put_num_at base v l 0 1 w (by decide) (by decide) hown hb (by omega))
  have C1 := Lib.hid (put_num_at base v l 1 1 w (by decide) (by decide) hown hb (by omega))
  have E0 : Hid (l ++ flagL false = l ++ be 1 0) := Lib.hid rfl
  have E1 : Hid (l ++ flagL true = l ++ be 1 1) := Lib.hid rfl
  clear hown hb hl
  cases b with
  | false =>
    rw [← E0.out] at C0
    go_enter Try.func57, Try.ntmps57
    go_wp2_with fail
    refine C0.out.mono ?_
    rintro e w1 ⟨v1, rfl, h1, m1⟩
    have H1 := Lib.hid h1
    have M1 := Lib.hid m1
    clear h1 m1 C0 C1
    go_wp2
    go_ret
    exact ⟨_, rfl, H1.out, M1.out⟩
  | true =>
    rw [← E1.out] at C1
    go_enter Try.func57, Try.ntmps57
    go_wp2_with fail
    refine C1.out.mono ?_
    rintro e w1 ⟨v1, rfl, h1, m1⟩
    have H1 := Lib.hid h1
    have M1 := Lib.hid m1
    clear h1 m1 C0 C1
    go_wp2
    go_ret
    exact ⟨_, rfl, H1.out, M1.out⟩

theorem wrap_u64_of_lt {n : Nat} (h : n < 18446744073709551616) : IntKind.u64.wrap (n : Int) = (n : Int) := by
  rw [uN_wrap, uN]
  omega
theorem bytesE_right {e : Ent} (h : entR e = true) : e.name.length ≤ 16 ∧ e.tag.length = 32 ∧ (bytesE e).length ≤ 68 := by
  obtain ⟨p1, p2, -⟩ := entR_parts h
  have := name_short p1
  refine ⟨this, p2, ?_⟩
  rw [bytesE, List.length_append, bodyL_length]
  omega
theorem entsL_take {l : List Ent} {k : Nat} {x : Ent} (h : l[k]? = some x) : entsL (l.take (k + 1)) = entsL (l.take k) ++ encS ⟨(bytesE x).toArray⟩ := by
  rw [entsL, entsL, take_at h, List.flatMap_append]
  simp
theorem encS_len (l : List UInt8) : (encS ⟨l.toArray⟩).length = 2 + l.length := by rw [encS_length]; rfl
theorem entsL_length {l : List Ent} (h : ∀ e ∈ l, entR e = true) : (entsL l).length ≤ 70 * l.length := by
  induction l with
  | nil => simp [entsL]
  | cons x r ih =>
    have h1 := (bytesE_right (h x (by simp))).2.2
    have h2 := ih (fun e he => h e (by simp [he]))
    rw [entsL, List.flatMap_cons, List.length_append, encS_len, List.length_cons]
    simp only [entsL] at h2
    omega

set_option maxHeartbeats 1000000 in
theorem putEntries_any (W : World) (e : Row) (l : List Ent) (hr : RowsAt W e.v 6 (l.map Ent.enc)) (hl : l.length ≤ 8) (hall : ∀ x ∈ l, entR x = true) (base : Nat) (hBW : W.heap.size ≤ base) (v : Value) (b : List UInt8) (hbl : b.length ≤ 20000)
    (w : World) (hW : Below W.heap.size W w) (hown : OwnB w base v b) (hb : base ≤ w.heap.size) :
    Calls Try.prog 59 #[v, .slice e.a e.n e.c] w fun x w' => ∃ v', x = .returned v' ∧ OwnB w' base v' (b ++ (be 1 l.length ++ entsL l)) ∧ Moves (VF v) (VF v') w w' := by
  obtain ⟨A, n, c⟩ := e
  show Calls _ _ #[_, .slice A n c] _ _
  have hn : n = l.length := by have := hr.size.1; simpa using this
  have HL := Lib.hid hn
  have HA := Lib.hid hr
  have HM := Lib.hid hl
  have HX := Lib.hid hall
  have BW := Lib.hid hW
  have HBW := Lib.hid hBW
  have HB := Lib.hid hb
  have HO := Lib.hid hown
  have C0 := Lib.hid (put_num_at base v b n 1 w (by decide) (by decide) hown hb (by omega))
  have HS : Hid (∀ k, (b ++ be 1 n ++ entsL (l.take k)).length ≤ 30000) := Lib.hid (fun k => by
    have h1 := entsL_length (l := l.take k) (fun x hx => hall x (List.mem_of_mem_take hx))
    rw [List.length_append, List.length_append, be_length]
    rw [List.length_take] at h1
    omega)
  have HZ : Hid (b ++ be 1 n ++ entsL (l.take 0) = b ++ be 1 n) := Lib.hid (by simp [entsL])
  have HW : Hid (b ++ be 1 n ++ entsL (l.take n) = b ++ (be 1 l.length ++ entsL l)) := Lib.hid (by rw [List.take_of_length_le (by omega), hn, List.append_assoc])
  rw [← HZ.out] at C0
  have r0 : IntKind.u64.wrap (n : Int) = (n : Int) := wrap_u64_of_lt (by omega)
  clear hr hl hall hW hBW hb hown hn
  go_enter Try.func59, Try.ntmps59
  go_wp2_with fail
  refine C0.out.mono ?_
  rintro x w1 ⟨v1, rfl, o1, m1⟩
  have O1 := Lib.hid o1
  have M1 := Lib.hid m1
  clear o1 m1 C0
  go_wp2_with fail
  go_loopw [0, 14] (fun u i wr => ∃ k : Nat, k ≤ n ∧ i = .int .i64 (k : Int) ∧ OwnB wr base u (b ++ be 1 n ++ entsL (l.take k)) ∧ Moves (VF v) (VF u) w wr) (fun _ i _ => n - (intOf i).toNat)
  case atStart => exact ⟨0, Nat.zero_le _, rfl, O1.out, M1.out⟩
  case round =>
    obtain ⟨k, hk, rfl, ho, hm⟩ := hrel
    have O0 := Lib.hid ho
    have M0 := Lib.hid hm
    have B0 : Hid (base ≤ wr.heap.size) := Lib.hid (Nat.le_trans HB.out hm.keeps.size)
    clear ho hm O1 M1
    by_cases hlt : k < n
    · have dk : decide ((k : Int) < (n : Int)) = true := by simp; omega
      have jk : (k : Int) < (n : Int) := by omega
      obtain ⟨x, hx⟩ : ∃ x, l[k]? = some x := ⟨_, List.getElem?_eq_getElem (by rw [← HL.out]; exact hlt)⟩
      obtain ⟨g, off, rfl, hgl, hc⟩ := HA.out.row (entC_len l) (by decide) (map_at hx)
      have HD : Hid (Below W.heap.size W wr) := Lib.hid (M0.out.old HBW.out HO.out BW.out)
      have HC := Lib.hid (fun j u (hj : x.enc[j]? = some u) => (HD.out.cell (p := ⟨g, off + k * 6 + j, none⟩) hgl).trans (hc j u hj))
      have HT : Hid (b ++ be 1 n ++ entsL (l.take (k + 1)) = b ++ be 1 n ++ entsL (l.take k) ++ encS ⟨(bytesE x).toArray⟩) := Lib.hid (by rw [entsL_take hx, List.append_assoc (b ++ be 1 n)])
      obtain ⟨hx1, hx2, hx3⟩ := bytesE_right (HX.out x (List.mem_of_getElem? hx))
      have CB := fun w => Lib.hid (enBytes_any x (by omega) (by omega) w)
      have HY := Lib.hid hx3
      have r4 : IntKind.i64.wrap ((k : Int) + 1) = ((k + 1 : Nat) : Int) := by have := HM.out; have := HL.out; rw [IntWalk.i64_in _ (by omega)]; omega
      clear hc hx hx1 hx2 hx3
      go_wp2_with (first | (with_reducible refine wpList_load_rec Ent.isRec rfl _ rfl g (off + k * 6) (by with_unfolding_all exact rfl) x.enc (Ent.len _) HC.out ?_) | (refine wpList_alloc_row rfl 51 rfl Ent.zero.enc.toArray Ent.zero_is ?_))
      intro w1 b1 x1 z1
      obtain ⟨gE, hgE⟩ : ∃ q, q = wr.heap.size := ⟨_, rfl⟩
      rw [← hgE] at x1 ⊢
      have X1 : Hid (Ent.At w1 gE Ent.zero) := Lib.hid x1
      have OO1 := Lib.hid (O0.out.below b1)
      have MM1 := Lib.hid (M0.out.trans (Moves.of_below _ b1))
      have NE := Lib.hid (show u0.ownBlock ≠ some gE from fun e => by have := (O0.out.lt _ e).2; omega)
      have SZ := Lib.hid (Nat.le_trans B0.out b1.size)
      have NW := Lib.hid (show wr.heap.size ≤ gE from Nat.le_of_eq hgE.symm)
      have M0s := Lib.hid M0.out.keeps.size
      clear b1 x1 z1 O0 M0 HC hgE
      go_wp2_with (with_reducible refine wpList_store_whole rfl 51 _ _ rfl gE x.enc.toArray (by with_unfolding_all exact rfl) (by with_unfolding_all exact rfl) _ _ X1.out (Ent.size _) rfl (Ent.one _) ?_)
      intro w2 g2 x2 z2
      have X2 : Hid (Ent.At w2 gE x) := Lib.hid x2
      have OO2 : Hid (OwnB w2 base u0 (b ++ be 1 n ++ entsL (l.take k))) := Lib.hid (OO1.out.kept g2 (.inr NE.out))
      have MM2 := Lib.hid (MM1.out.new g2 (Nat.le_trans M0s.out NW.out))
      have SZ2 := Lib.hid (Nat.le_trans SZ.out g2.size)
      clear g2 x2 z2 X1 OO1 MM1 SZ
      go_wp2_with (with_reducible refine wpList_load_whole Ent.isRec rfl _ rfl gE (by with_unfolding_all exact rfl) _ _ (Ent.len _) X2.out ?_)
      refine (CB w2).out.mono ?_
      rintro y w3 ⟨v3, rfl, y3, b3⟩
      have OO3 := Lib.hid (OO2.out.below b3)
      have MM3 := Lib.hid (MM2.out.trans (Moves.of_below _ b3))
      have SZ3 := Lib.hid (Nat.le_trans SZ2.out b3.size)
      have r3 := conv_bytes y3
      have CT := Lib.hid (put_text_at base u0 (b ++ be 1 n ++ entsL (l.take k)) (bytesE x) w3 (by have := HY.out; omega) OO3.out SZ3.out (by have := HS.out k; omega))
      rw [← HT.out] at CT
      clear y3 b3 OO2 MM2 SZ2 X2
      go_wp2_with fail
      refine CT.out.mono ?_
      rintro y w4 ⟨v4, rfl, o4, m4⟩
      have OO4 := Lib.hid o4
      have MM4 := Lib.hid (MM3.out.trans m4)
      clear o4 m4 CT r3 OO3 MM3
      go_wp2
      exact ⟨⟨k + 1, by omega, by go_num, OO4.out, MM4.out⟩, by simp [intOf]; omega⟩
    · obtain rfl : k = n := by omega
      have dk : decide ((k : Int) < (k : Int)) = false := by simp
      rw [HW.out] at O0
      go_wp2
      go_ret
      exact ⟨_, rfl, O0.out, M0.out⟩

theorem item_right {i : Item} (h : itemB i = true) : i.key.length ≤ 24 ∧ i.text.length ≤ 32 ∧ 1 ≤ i.ver ∧ i.ver ≤ 1073741824 := by
  simp only [itemB, keyB, Bool.and_eq_true, decide_eq_true_eq] at h
  omega
theorem flagL_length (b : Bool) : (flagL b).length = 1 := be_length _ _
theorem itemL_length {i : Item} (h : itemB i = true) : (itemL i).length ≤ 70 := by
  have := item_right h
  simp only [itemL, List.length_append, encS_len, be_length, flagL_length]
  omega
theorem itemsL_take {l : List Item} {k : Nat} {x : Item} (h : l[k]? = some x) : itemsL (l.take (k + 1)) = itemsL (l.take k) ++ itemL x := by
  rw [itemsL, itemsL, take_at h, List.flatMap_append]
  simp
theorem itemsL_length {l : List Item} (h : ∀ e ∈ l, itemB e = true) : (itemsL l).length ≤ 70 * l.length := by
  induction l with
  | nil => simp [itemsL]
  | cons x r ih =>
    have h1 := itemL_length (h x (by simp))
    have h2 := ih (fun e he => h e (by simp [he]))
    rw [itemsL, List.flatMap_cons, List.length_append, List.length_cons]
    simp only [itemsL] at h2
    omega

set_option maxHeartbeats 2000000 in
theorem putItems_any (W : World) (e : Row) (l : List Item) (hr : RowsAt W e.v 4 (l.map Item.enc)) (hl : l.length ≤ 16) (hall : ∀ x ∈ l, itemB x = true) (base : Nat) (hBW : W.heap.size ≤ base) (v : Value) (b : List UInt8) (hbl : b.length ≤ 20000)
    (w : World) (hW : Below W.heap.size W w) (hown : OwnB w base v b) (hb : base ≤ w.heap.size) :
    Calls Try.prog 60 #[v, .slice e.a e.n e.c] w fun x w' => ∃ v', x = .returned v' ∧ OwnB w' base v' (b ++ (be 1 l.length ++ itemsL l)) ∧ Moves (VF v) (VF v') w w' := by
  obtain ⟨A, n, c⟩ := e
  show Calls _ _ #[_, .slice A n c] _ _
  have hn : n = l.length := by have := hr.size.1; simpa using this
  have HL := Lib.hid hn
  have HA := Lib.hid hr
  have HM := Lib.hid hl
  have HX := Lib.hid hall
  have BW := Lib.hid hW
  have HBW := Lib.hid hBW
  have HB := Lib.hid hb
  have HO := Lib.hid hown
  have C0 := Lib.hid (put_num_at base v b n 1 w (by decide) (by decide) hown hb (by omega))
  have HS : Hid (∀ k, (b ++ be 1 n ++ itemsL (l.take k)).length ≤ 30000) := Lib.hid (fun k => by
    have h1 := itemsL_length (l := l.take k) (fun x hx => hall x (List.mem_of_mem_take hx))
    rw [List.length_append, List.length_append, be_length]
    rw [List.length_take] at h1
    omega)
  have HZ : Hid (b ++ be 1 n ++ itemsL (l.take 0) = b ++ be 1 n) := Lib.hid (by simp [itemsL])
  have HW : Hid (b ++ be 1 n ++ itemsL (l.take n) = b ++ (be 1 l.length ++ itemsL l)) := Lib.hid (by rw [List.take_of_length_le (by omega), hn, List.append_assoc])
  rw [← HZ.out] at C0
  have r0 : IntKind.u64.wrap (n : Int) = (n : Int) := wrap_u64_of_lt (by omega)
  clear hr hl hall hW hBW hb hown hn
  go_enter Try.func60, Try.ntmps60
  go_wp2_with fail
  refine C0.out.mono ?_
  rintro x w1 ⟨v1, rfl, o1, m1⟩
  have O1 := Lib.hid o1
  have M1 := Lib.hid m1
  clear o1 m1 C0
  go_wp2_with fail
  go_loopw [0, 14] (fun u i wr => ∃ k : Nat, k ≤ n ∧ i = .int .i64 (k : Int) ∧ OwnB wr base u (b ++ be 1 n ++ itemsL (l.take k)) ∧ Moves (VF v) (VF u) w wr) (fun _ i _ => n - (intOf i).toNat)
  case atStart => exact ⟨0, Nat.zero_le _, rfl, O1.out, M1.out⟩
  case round =>
    obtain ⟨k, hk, rfl, ho, hm⟩ := hrel
    have O0 := Lib.hid ho
    have M0 := Lib.hid hm
    have B0 : Hid (base ≤ wr.heap.size) := Lib.hid (Nat.le_trans HB.out hm.keeps.size)
    clear ho hm O1 M1
    by_cases hlt : k < n
    · have dk : decide ((k : Int) < (n : Int)) = true := by simp; omega
      have jk : (k : Int) < (n : Int) := by omega
      obtain ⟨x, hx⟩ : ∃ x, l[k]? = some x := ⟨_, List.getElem?_eq_getElem (by rw [← HL.out]; exact hlt)⟩
      obtain ⟨g, off, rfl, hgl, hc⟩ := HA.out.row (itemC_len l) (by decide) (map_at hx)
      have HD : Hid (Below W.heap.size W wr) := Lib.hid (M0.out.old HBW.out HO.out BW.out)
      have HC := Lib.hid (fun j u (hj : x.enc[j]? = some u) => (HD.out.cell (p := ⟨g, off + k * 4 + j, none⟩) hgl).trans (hc j u hj))
      obtain ⟨acc, hacc⟩ : ∃ acc, acc = b ++ be 1 n ++ itemsL (l.take k) := ⟨_, rfl⟩
      have HT : Hid (b ++ be 1 n ++ itemsL (l.take (k + 1)) = acc ++ encS ⟨x.key.toArray⟩ ++ encS ⟨x.text.toArray⟩ ++ be 4 (uN x.ver) ++ flagL x.gone) := Lib.hid (by rw [itemsL_take hx, hacc, itemL]; simp only [List.append_assoc])
      have HI := Lib.hid (item_right (HX.out x (List.mem_of_getElem? hx)))
      have HG : Hid (acc.length ≤ 30000) := Lib.hid (by rw [hacc]; exact HS.out k)
      have rv : IntKind.u64.wrap x.ver = (uN x.ver : Int) := uN_wrap x.ver
      have r4 : IntKind.i64.wrap ((k : Int) + 1) = ((k + 1 : Nat) : Int) := by have := HM.out; have := HL.out; rw [IntWalk.i64_in _ (by omega)]; omega
      rw [← hacc] at O0
      clear hc hx hacc
      go_wp2_with (first | (with_reducible refine wpList_load_rec Item.isRec rfl _ rfl g (off + k * 4) (by with_unfolding_all exact rfl) x.enc (Item.len _) HC.out ?_) | (refine wpList_alloc_row rfl 29 rfl Item.zero.enc.toArray Item.zero_is ?_))
      intro w1 b1 x1 z1
      obtain ⟨gE, hgE⟩ : ∃ q, q = wr.heap.size := ⟨_, rfl⟩
      rw [← hgE] at x1 ⊢
      have X1 : Hid (Item.At w1 gE Item.zero) := Lib.hid x1
      have OO1 := Lib.hid (O0.out.below b1)
      have MM1 := Lib.hid (M0.out.trans (Moves.of_below _ b1))
      have NE := Lib.hid (show u0.ownBlock ≠ some gE from fun e => by have := (O0.out.lt _ e).2; omega)
      have SZ := Lib.hid (Nat.le_trans B0.out b1.size)
      have NW := Lib.hid (show wr.heap.size ≤ gE from Nat.le_of_eq hgE.symm)
      have M0s := Lib.hid M0.out.keeps.size
      clear b1 x1 z1 O0 M0 HC hgE
      go_wp2_with (with_reducible refine wpList_store_whole rfl 29 _ _ rfl gE x.enc.toArray (by with_unfolding_all exact rfl) (by with_unfolding_all exact rfl) _ _ X1.out (Item.size _) rfl (Item.one _) ?_)
      intro w2 g2 x2 z2
      have X2 : Hid (Item.At w2 gE x) := Lib.hid x2
      have OO2 : Hid (OwnB w2 base u0 acc) := Lib.hid (OO1.out.kept g2 (.inr NE.out))
      have MM2 := Lib.hid (MM1.out.new g2 (Nat.le_trans M0s.out NW.out))
      have SZ2 := Lib.hid (Nat.le_trans SZ.out g2.size)
      clear g2 x2 z2 X1 OO1 MM1 SZ
      have c := Item.At.at_key X2.out
      have CT := Lib.hid (put_text_at base u0 acc x.key w2 (by have := HI.out; omega) OO2.out SZ2.out (by have := HG.out; omega))
      go_wp2_with fail
      refine CT.out.mono ?_
      rintro y w3 ⟨v3, rfl, o3, m3⟩
      have X3 : Hid (Item.At w3 gE x) := Lib.hid (Whole.keeps X2.out m3.keeps NE.out)
      have N3 := Lib.hid (show ¬ VF v3 gE from fun e => (m3.foot _ e).elim NE.out (fun h => by have := X2.out.lt; omega))
      have OO3 := Lib.hid o3
      have MM3 := Lib.hid (MM2.out.trans m3)
      have SZ3 := Lib.hid (Nat.le_trans SZ2.out m3.keeps.size)
      clear c o3 m3 CT OO2 MM2 SZ2 X2 NE
      have c := Item.At.at_text X3.out
      have CT := Lib.hid (put_text_at base v3 (acc ++ encS ⟨x.key.toArray⟩) x.text w3 (by have := HI.out; omega) OO3.out SZ3.out (by have := HG.out; have := HI.out; rw [List.length_append, encS_len]; omega))
      go_wp2_with fail
      refine CT.out.mono ?_
      rintro y w4 ⟨v4, rfl, o4, m4⟩
      have X4 : Hid (Item.At w4 gE x) := Lib.hid (Whole.keeps X3.out m4.keeps N3.out)
      have N4 := Lib.hid (show ¬ VF v4 gE from fun e => (m4.foot _ e).elim N3.out (fun h => by have := X3.out.lt; omega))
      have OO4 := Lib.hid o4
      have MM4 := Lib.hid (MM3.out.trans m4)
      have SZ4 := Lib.hid (Nat.le_trans SZ3.out m4.keeps.size)
      clear c o4 m4 CT OO3 MM3 SZ3 X3 N3
      have c := Item.At.at_ver X4.out
      have CT := Lib.hid (put_num_at base v4 (acc ++ encS ⟨x.key.toArray⟩ ++ encS ⟨x.text.toArray⟩) (uN x.ver) 4 w4 (by decide) (by decide) OO4.out SZ4.out (by have := HG.out; have := HI.out; rw [List.length_append, List.length_append, encS_len, encS_len]; omega))
      go_wp2_with fail
      refine CT.out.mono ?_
      rintro y w5 ⟨v5, rfl, o5, m5⟩
      have X5 : Hid (Item.At w5 gE x) := Lib.hid (Whole.keeps X4.out m5.keeps N4.out)
      have OO5 := Lib.hid o5
      have MM5 := Lib.hid (MM4.out.trans m5)
      have SZ5 := Lib.hid (Nat.le_trans SZ4.out m5.keeps.size)
      clear c o5 m5 CT OO4 MM4 SZ4 X4 N4
      have c := Item.At.at_gone X5.out
      have CT := Lib.hid (putFlag_any base v5 (acc ++ encS ⟨x.key.toArray⟩ ++ encS ⟨x.text.toArray⟩ ++ be 4 (uN x.ver)) x.gone w5 OO5.out SZ5.out (by have := HG.out; have := HI.out; rw [List.length_append, List.length_append, List.length_append, encS_len, encS_len, be_length]; omega))
      rw [← HT.out] at CT
      go_wp2_with fail
      refine CT.out.mono ?_
      rintro y w6 ⟨v6, rfl, o6, m6⟩
      have OO6 := Lib.hid o6
      have MM6 := Lib.hid (MM5.out.trans m6)
      clear c o6 m6 CT OO5 MM5 SZ5 X5
      go_wp2
      exact ⟨⟨k + 1, by omega, by go_num, OO6.out, MM6.out⟩, by simp [intOf]; omega⟩
    · obtain rfl : k = n := by omega
      have dk : decide ((k : Int) < (k : Int)) = false := by simp
      rw [HW.out] at O0
      go_wp2
      go_ret
      exact ⟨_, rfl, O0.out, M0.out⟩
end Go.Proofs.Ytnjeopgcpffkcaa

namespace Go.Proofs.Ytnjeopgcpffkcaa
set_option maxRecDepth 100000
open Go.RowKit

structure Rdr where
  r : Nat
  big : Bool
  odd : Bool
namespace Rdr
def enc (x : Rdr) : List Value := [.pointer (some ⟨x.r, 0, none⟩), .bool x.big, .bool x.odd]
abbrev val (x : Rdr) : Value := .agg x.enc.toArray
theorem len (x : Rdr) : x.enc.length = 3 := rfl
theorem one (x : Rdr) : x.enc.toArray.all (·.oneCell') = true := by simp [enc, Value.oneCell']
theorem isRec : St Try.prog 70 3 := ⟨by kernel_rfl, by kernel_rfl, by kernel_rfl⟩
theorem size (x : Rdr) : (Try.prog.info? 70).map (·.size) = some x.enc.toArray.size := by
  have h : (Try.prog.info? 70).map (·.size) = some 3 := by kernel_rfl
  exact h
/-- In a block. -/
abbrev At (w : World) (g : Nat) (x : Rdr) : Prop := Whole w g 70 x.enc.toArray
theorem At.at_r {w : World} {g : Nat} {x : Rdr} (h : At w g x) : w.cell? ⟨g, 0, none⟩ = some (.pointer (some ⟨x.r, 0, none⟩)) := h.at_ 0
theorem At.at_big {w : World} {g : Nat} {x : Rdr} (h : At w g x) : w.cell? ⟨g, 1, none⟩ = some (.bool x.big) := h.at_ 1
theorem At.at_odd {w : World} {g : Nat} {x : Rdr} (h : At w g x) : w.cell? ⟨g, 2, none⟩ = some (.bool x.odd) := h.at_ 2
theorem At.set_r {w : World} {g : Nat} {x : Rdr} (h : At w g x) (v : Nat) : At (w.setCell ⟨g, 0, none⟩ (.pointer (some ⟨v, 0, none⟩))) g { x with r := v } := h.stored 0 _
theorem At.set_big {w : World} {g : Nat} {x : Rdr} (h : At w g x) (v : Bool) : At (w.setCell ⟨g, 1, none⟩ (.bool v)) g { x with big := v } := h.stored 1 _
theorem At.set_odd {w : World} {g : Nat} {x : Rdr} (h : At w g x) (v : Bool) : At (w.setCell ⟨g, 2, none⟩ (.bool v)) g { x with odd := v } := h.stored 2 _
end Rdr
end Go.Proofs.Ytnjeopgcpffkcaa
