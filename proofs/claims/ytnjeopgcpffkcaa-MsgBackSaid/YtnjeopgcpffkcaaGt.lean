/- Package msg: a message's reader (pack's reader, and what it does not tell): flag, count, end. Package msg: Copy. An entry that is read into memory, a reader beside it: what each step leaves. -/
import Derived.Test.YtnjeopgcpffkcaaGs
import Derived.Test.YtnjeopgcpffkcaaGe
import Derived.Test.YtnjeopgcpffkcaaGm
import Derived.Test.YtnjeopgcpffkcaaGr
import Derived.Test.YtnjeopgcpffkcaaGk
namespace Go.Proofs.Ytnjeopgcpffkcaa
set_option maxRecDepth 100000
open Go.RowKit

structure RdrAt (w : World) (gR gP : Nat) (s : RS) (big odd : Bool) : Prop where
  rdr : Rdr.At w gR ⟨gP, big, odd⟩
  rd : RdS w gP s
  ne : gR ≠ gP
abbrev RF (gR gP : Nat) : Nat → Prop := fun i => i = gR ∨ i = gP
section
variable {w w' : World} {gR gP : Nat} {s s' : RS} {big odd : Bool}
theorem RdS.keeps {F : Nat → Prop} (h : RdS w gP s) (k : Keeps F w w') (hn : ¬ F gP) : RdS w' gP s := ⟨Whole.keeps h.1 k hn, h.2⟩
theorem RdrAt.keeps {F : Nat → Prop} (h : RdrAt w gR gP s big odd) (k : Keeps F w w') (h1 : ¬ F gR) (h2 : ¬ F gP) : RdrAt w' gR gP s big odd := ⟨Whole.keeps h.rdr k h1, h.rd.keeps k h2, h.ne⟩
theorem RdrAt.below (h : RdrAt w gR gP s big odd) (b : Below w.heap.size w w') : RdrAt w' gR gP s big odd := h.keeps (F := fun _ => False) (Keeps.of_below b) id id
/-- pack's reader has read. -/
theorem RdrAt.read (h : RdrAt w gR gP s big odd) (hr : RdS w' gP s') (q : w.grownBy w' (some gP)) : RdrAt w' gR gP s' big odd := ⟨grown_far h.rdr q h.ne, hr, h.ne⟩
theorem keeps_read {gR gP : Nat} (q : w.grownBy w' (some gP)) : Keeps (RF gR gP) w w' := Keeps.of_grown q (fun k e => .inl (.inr (by injection e with e; exact e.symm)))
theorem keeps_rdr {gR gP : Nat} (q : w.grownBy w' (some gR)) : Keeps (RF gR gP) w w' := Keeps.of_grown q (fun k e => .inl (.inl (by injection e with e; exact e.symm)))
theorem RdrAt.lt (h : RdrAt w gR gP s big odd) : gR < w.heap.size ∧ gP < w.heap.size := ⟨h.rdr.lt, Whole.lt h.rd.1⟩
end

set_option maxHeartbeats 1000000 in
theorem flag_any (gR gP : Nat) (s : RS) (big odd : Bool) (w : World) (h : RdrAt w gR gP s big odd) :
    Calls Try.prog 71 #[.pointer (some ⟨gR, 0, none⟩)] w fun e w' => e = .returned (.bool (truthB s)) ∧ RdrAt w' gR gP (rawS s 1) big (odd || truthX s) ∧ Keeps (RF gR gP) w w' := by
  have H0 := Lib.hid h
  have C := Lib.hid (pkNum gP 1 s w h.rd (by decide) (by decide))
  have c0 : w.cell? ⟨gR, 0, none⟩ = some (.pointer (some ⟨gP, 0, none⟩)) := h.rdr.at_ 0
  obtain ⟨n, hn⟩ : ∃ n, n = numO s 1 := ⟨_, rfl⟩
  rw [← hn] at C
  obtain ⟨q1, hq1⟩ : ∃ q, q = truthB s := ⟨_, rfl⟩
  obtain ⟨q2, hq2⟩ : ∃ q, q = truthX s := ⟨_, rfl⟩
  have d1 : ((n : Int) == 1) = q1 := by rw [hq1, truthB, ← hn, Bool.eq_iff_iff]; simp; omega
  have d2 : decide ((1 : Int) < (n : Int)) = q2 := by rw [hq2, truthX, ← hn]; congr 1; exact propext (by omega)
  rw [← hq1, ← hq2]
  clear h hn hq1 hq2
  go_enter Try.func71, Try.ntmps71
  go_wp2_with fail
  refine C.out.mono ?_
  rintro e w1 ⟨rfl, hr, hg⟩
  have H1 := Lib.hid (H0.out.read hr hg)
  have K1 : Hid (Keeps (RF gR gP) w w1) := Lib.hid (keeps_read hg)
  clear hr hg C H0 c0
  have c2 : w1.cell? ⟨gR, 2, none⟩ = some (.bool odd) := H1.out.rdr.at_ 2
  cases odd with
  | true =>
    go_wp2_with (with_reducible refine wpList_put_cell 4 ⟨by kernel_rfl, by kernel_rfl⟩ rfl _ _ rfl gR 2 (by with_unfolding_all exact rfl) (.bool true) (by with_unfolding_all exact rfl) (by with_unfolding_all exact rfl) (by with_unfolding_all exact rfl) _ _ H1.out.rdr _ (by with_unfolding_all exact rfl) ?_)
    intro w2 q x z
    have H2 : Hid (RdrAt w2 gR gP (rawS s 1) big true) := Lib.hid ⟨x, ⟨grown_far H1.out.rd.1 q (fun e => H1.out.ne e.symm), H1.out.rd.2⟩, H1.out.ne⟩
    have K2 := Lib.hid (K1.out.trans (keeps_rdr q))
    clear q x z H1 K1 c2
    go_wp2
    go_ret
    exact ⟨rfl, H2.out, K2.out⟩
  | false =>
    go_wp2_with (with_reducible refine wpList_put_cell 4 ⟨by kernel_rfl, by kernel_rfl⟩ rfl _ _ rfl gR 2 (by with_unfolding_all exact rfl) (.bool q2) (by with_unfolding_all exact rfl) (by with_unfolding_all exact rfl) (by with_unfolding_all exact rfl) _ _ H1.out.rdr _ (by with_unfolding_all exact rfl) ?_)
    intro w2 q x z
    have H2 : Hid (RdrAt w2 gR gP (rawS s 1) big (false || q2)) := Lib.hid ⟨by rw [Bool.false_or]; exact x, ⟨grown_far H1.out.rd.1 q (fun e => H1.out.ne e.symm), H1.out.rd.2⟩, H1.out.ne⟩
    have K2 := Lib.hid (K1.out.trans (keeps_rdr q))
    clear q x z H1 K1 c2
    go_wp2
    go_ret
    exact ⟨rfl, H2.out, K2.out⟩

set_option maxHeartbeats 1000000 in
theorem count_any (gR gP : Nat) (s : RS) (big odd : Bool) (most : Nat) (w : World) (h : RdrAt w gR gP s big odd) :
    Calls Try.prog 86 #[.pointer (some ⟨gR, 0, none⟩), .int .i64 (most : Int)] w fun e w' => e = .returned (.int .i64 (manyN s most : Int)) ∧ RdrAt w' gR gP (rawS s 1) (big || manyX s most) odd ∧ Keeps (RF gR gP) w w' := by
  have H0 := Lib.hid h
  have C := Lib.hid (pkNum gP 1 s w h.rd (by decide) (by decide))
  have c0 : w.cell? ⟨gR, 0, none⟩ = some (.pointer (some ⟨gP, 0, none⟩)) := h.rdr.at_ 0
  have hlt := numO_lt s 1
  obtain ⟨n, hn⟩ : ∃ n, n = numO s 1 := ⟨_, rfl⟩
  rw [← hn] at C hlt
  have r1 : IntKind.i64.wrap (n : Int) = (n : Int) := by rw [IntWalk.i64_in _ (by omega)]
  by_cases hm : most < n
  · have HN : Hid (manyN s most = 0) := Lib.hid (by rw [manyN, ← hn, if_pos hm])
    have HX : Hid (manyX s most = true) := Lib.hid (by rw [manyX, ← hn]; simpa using hm)
    have d : decide ((most : Int) < (n : Int)) = true := by simp; omega
    have d2 : decide (most < n) = true := by simpa using hm
    rw [HN.out, HX.out, Bool.or_true]
    clear h hn hlt
    go_enter Try.func86, Try.ntmps86
    go_wp2_with fail
    refine C.out.mono ?_
    rintro e w1 ⟨rfl, hr, hg⟩
    have H1 := Lib.hid (H0.out.read hr hg)
    have K1 : Hid (Keeps (RF gR gP) w w1) := Lib.hid (keeps_read hg)
    clear hr hg C H0 c0
    go_wp2_with (with_reducible refine wpList_put_cell 4 ⟨by kernel_rfl, by kernel_rfl⟩ rfl _ _ rfl gR 1 (by with_unfolding_all exact rfl) (.bool true) (by with_unfolding_all exact rfl) (by with_unfolding_all exact rfl) (by with_unfolding_all exact rfl) _ _ H1.out.rdr _ (by with_unfolding_all exact rfl) ?_)
    intro w2 q x z
    have H2 : Hid (RdrAt w2 gR gP (rawS s 1) true odd) := Lib.hid ⟨x, ⟨grown_far H1.out.rd.1 q (fun e => H1.out.ne e.symm), H1.out.rd.2⟩, H1.out.ne⟩
    have K2 := Lib.hid (K1.out.trans (keeps_rdr q))
    clear q x z H1 K1
    go_wp2
    go_ret
    exact ⟨rfl, H2.out, K2.out⟩
  · have HN : Hid (manyN s most = n) := Lib.hid (by rw [manyN, ← hn, if_neg hm])
    have HX : Hid (manyX s most = false) := Lib.hid (by rw [manyX, ← hn]; simpa using hm)
    have d : decide ((most : Int) < (n : Int)) = false := by simp; omega
    have d2 : decide (most < n) = false := by simpa using hm
    rw [HN.out, HX.out, Bool.or_false]
    clear h hn hlt
    go_enter Try.func86, Try.ntmps86
    go_wp2_with fail
    refine C.out.mono ?_
    rintro e w1 ⟨rfl, hr, hg⟩
    have H1 := Lib.hid (H0.out.read hr hg)
    have K1 : Hid (Keeps (RF gR gP) w w1) := Lib.hid (keeps_read hg)
    clear hr hg C H0 c0
    go_wp2
    go_ret
    exact ⟨rfl, H1.out, K1.out⟩

set_option maxHeartbeats 1000000 in
theorem rdrEnd_any (gR gP : Nat) (s : RS) (big odd : Bool) (w : World) (h : RdrAt w gR gP s big odd) :
    Calls Try.prog 49 #[.pointer (some ⟨gR, 0, none⟩)] w fun e w' => e = .returned (.int .i64 (if big = true then 3 else endE s)) ∧ w = w' := by
  have C := Lib.hid (pkEnd gP s w h.rd)
  have c0 : w.cell? ⟨gR, 0, none⟩ = some (.pointer (some ⟨gP, 0, none⟩)) := h.rdr.at_ 0
  have c1 : w.cell? ⟨gR, 1, none⟩ = some (.bool big) := h.rdr.at_ 1
  generalize endE s = x at *
  clear h
  cases big with
  | true =>
    go_enter Try.func49, Try.ntmps49
    go_wp2
    go_ret
    exact ⟨rfl, rfl⟩
  | false =>
    go_enter Try.func49, Try.ntmps49
    go_wp2_with fail
    refine C.out.mono ?_
    rintro e w1 ⟨rfl, rfl⟩
    go_wp2
    go_ret
    exact ⟨rfl, rfl⟩
end Go.Proofs.Ytnjeopgcpffkcaa

namespace Go.Proofs.Ytnjeopgcpffkcaa
set_option maxRecDepth 100000
open Go.RowKit

theorem entZ : ElemZ Try.prog 24 51 6 := Ent.isElem.z
theorem itemZ : ElemZ Try.prog 25 29 4 := Item.isElem.z
theorem OwnRows.off {w : World} {base k g : Nat} {e : TypeId} {v : Value} {L : List (List Value)} (h : OwnRows w base e k v L) (hg : g < base) : v.ownBlock ≠ some g := fun e => by have := (h.lt g e).1; omega

/-- Its lists lie in memory of the call's own. -/
structure OwnLists (w : World) (base : Nat) (e t : Row) (m : Mg) : Prop where
  es : OwnRows w base 51 6 e.v (m.es.map Ent.enc)
  its : OwnRows w base 29 4 t.v (m.its.map Item.enc)
theorem OwnLists.lists {w : World} {base : Nat} {e t : Row} {m : Mg} (h : OwnLists w base e t m) : Lists w e t m := ⟨h.es.rows, h.its.rows⟩
theorem OwnLists.far {w w' : World} {base g : Nat} {e t : Row} {m : Mg} (h : OwnLists w base e t m) (q : w.grownBy w' (some g)) (hg : g < base) : OwnLists w' base e t m := ⟨h.es.far q (h.es.off hg), h.its.far q (h.its.off hg)⟩
theorem OwnLists.below {w w' : World} {base : Nat} {e t : Row} {m : Mg} (h : OwnLists w base e t m) (b : Below w.heap.size w w') : OwnLists w' base e t m := ⟨h.es.below b rfl, h.its.below b rfl⟩

set_option maxHeartbeats 2000000 in
theorem msCopy_any (m : Mg) (e t : Row) (hes : m.es.length ≤ 1000000) (hits : m.its.length ≤ 1000000) (w : World) (h : Lists w e t m) :
    Calls Try.prog 9 #[(m.raw e t).val] w fun x w' => ∃ e' t', x = .returned (m.raw e' t').val ∧ OwnLists w' w.heap.size e' t' m ∧ Below w.heap.size w w' := by
  have H := Lib.hid h
  have HE := Lib.hid hes
  have HI := Lib.hid hits
  clear h hes hits
  go_enter Try.func9, Try.ntmps9
  go_wp2_with (refine wpList_box_row rfl 27 _ rfl (m.raw e t).enc.toArray (by with_unfolding_all exact rfl) ?_)
  intro w1 b1 x1 z1
  obtain ⟨gM, hgM⟩ : ∃ g, g = w.heap.size := ⟨_, rfl⟩
  have M_M := Lib.hid (show w.heap.size ≤ gM from by rw [hgM]; exact Nat.le_refl _)
  have B1 := Lib.hid b1
  rw [← hgM] at x1 ⊢
  have M1 : Hid (Mr.At w1 gM (m.raw e t)) := Lib.hid x1
  clear b1 x1 z1 hgM 
  go_wp2_with (first | (with_reducible refine wpList_load_whole_st Mr.isRec rfl _ rfl gM (by with_unfolding_all exact rfl) _ _ (Mr.len _) M1.out ?_) | (refine wpList_alloc_row rfl 27 rfl Mr.zero.enc.toArray Mr.zero_is ?_))
  intro w2 b2 x2 z2
  obtain ⟨gO, hgO⟩ : ∃ g, g = w1.heap.size := ⟨_, rfl⟩
  have N_M_O := Lib.hid (show gM < gO from by rw [hgO]; exact M1.out.lt)
  have M_O := Lib.hid (show w.heap.size ≤ gO from by rw [hgO]; exact B1.out.size)
  have M2 : Hid (Mr.At w2 gM (m.raw e t)) := Lib.hid (Whole.below M1.out b2 M1.out.lt)
  have B2 := Lib.hid (B1.out.trans (b2.mono B1.out.size))
  rw [← hgO] at x2 ⊢
  have O2 : Hid (Mr.At w2 gO Mr.zero) := Lib.hid x2
  clear b2 x2 z2 hgO M1 B1
  have L2 := Lib.hid (H.out.below B2.out)
  have c9 : w2.cell? ⟨gM, 9, none⟩ = some (.slice e.a e.n e.c) := M2.out.at_ 9
  obtain ⟨bE, hbE⟩ : ∃ q, q = w2.heap.size := ⟨_, rfl⟩
  have HbE := Lib.hid hbE
  clear hbE
  have A_M_E := Lib.hid (show gM < bE from by rw [HbE.out]; exact M2.out.lt)
  have A_O_E := Lib.hid (show gO < bE from by rw [HbE.out]; exact O2.out.lt)
  have S_E := Lib.hid (Nat.le_of_eq HbE.out)
  have T_E := Lib.hid (show w.heap.size ≤ bE from by rw [HbE.out]; exact B2.out.size)
  go_wp2_with (with_reducible refine wpList_append_rows_at entZ rfl _ _ rfl (.slice none 0 0) (by with_unfolding_all exact rfl) (OwnRows.nil _ bE _ _) _ (m.es.map Ent.enc) (by with_unfolding_all exact rfl) L2.out.es (entC_one _) (by have := HE.out; simp; omega) S_E.out ?_)
  intro v3 u3 o3 q3 h3
  obtain ⟨e3, rfl⟩ := raw_of o3.rows
  have EU3 := Lib.hid o3
  have MU3 : Hid (Mr.At u3 gM (m.raw e t)) := Lib.hid (M2.out.grown_own q3 (by simp [Value.ownBlock]))
  have OU3 : Hid (Mr.At u3 gO Mr.zero) := Lib.hid (O2.out.grown_own q3 (by simp [Value.ownBlock]))
  have BU3 := Lib.hid (B2.out.grown q3 B2.out.size (fun k hk => by cases hk))
  clear o3 q3 h3 c9 L2 M2 O2 B2 HbE
  have E2 : Hid (OwnRows u3 bE 51 6 e3.v (m.es.map Ent.enc)) := Lib.hid (EU3.out)
  clear EU3
  go_wp2_with (first | (with_reducible refine wpList_load_whole_st Mr.isRec rfl _ rfl gM (by with_unfolding_all exact rfl) _ _ (Mr.len _) MU3.out ?_) | (with_reducible refine wpList_load_whole_st Mr.isRec rfl _ rfl gO (by with_unfolding_all exact rfl) _ _ (Mr.len _) OU3.out ?_) | (with_reducible refine wpList_put_cell 24 ⟨by kernel_rfl, by kernel_rfl⟩ rfl _ _ rfl gM 9 (by with_unfolding_all exact rfl) (e3.v) (by with_unfolding_all exact rfl) (by with_unfolding_all exact rfl) (by with_unfolding_all exact rfl) _ _ MU3.out _ (by with_unfolding_all exact rfl) ?_))
  intro w3 q3 x3 z3
  have M3 : Hid (Mr.At w3 gM (m.raw e3 t)) := Lib.hid x3
  have O3 : Hid (Mr.At w3 gO Mr.zero) := Lib.hid (grown_far OU3.out q3 (by have := N_M_O.out; omega))
  have E3 : Hid (OwnRows w3 bE 51 6 e3.v (m.es.map Ent.enc)) := Lib.hid (E2.out.far q3 (fun e => by have := (E2.out.lt _ e).1; have := A_M_E.out; omega))
  have B3 := Lib.hid (BU3.out.grown q3 BU3.out.size (fun k hk => by injection hk with hk; have := M_M.out; omega))
  clear q3 x3 z3 MU3 OU3 E2 BU3
  have L2 := Lib.hid (H.out.below B3.out)
  have c9 : w3.cell? ⟨gM, 10, none⟩ = some (.slice t.a t.n t.c) := M3.out.at_ 10
  obtain ⟨bI, hbI⟩ : ∃ q, q = w3.heap.size := ⟨_, rfl⟩
  have HbI := Lib.hid hbI
  clear hbI
  have A_M_I := Lib.hid (show gM < bI from by rw [HbI.out]; exact M3.out.lt)
  have A_O_I := Lib.hid (show gO < bI from by rw [HbI.out]; exact O3.out.lt)
  have S_I := Lib.hid (Nat.le_of_eq HbI.out)
  have T_I := Lib.hid (show w.heap.size ≤ bI from by rw [HbI.out]; exact B3.out.size)
  go_wp2_with (with_reducible refine wpList_append_rows_at itemZ rfl _ _ rfl (.slice none 0 0) (by with_unfolding_all exact rfl) (OwnRows.nil _ bI _ _) _ (m.its.map Item.enc) (by with_unfolding_all exact rfl) L2.out.its (itemC_one _) (by have := HI.out; simp; omega) S_I.out ?_)
  intro v5 u5 o5 q5 h5
  obtain ⟨t5, rfl⟩ := raw_of o5.rows
  have IU5 := Lib.hid o5
  have MU5 : Hid (Mr.At u5 gM (m.raw e3 t)) := Lib.hid (M3.out.grown_own q5 (by simp [Value.ownBlock]))
  have OU5 : Hid (Mr.At u5 gO Mr.zero) := Lib.hid (O3.out.grown_own q5 (by simp [Value.ownBlock]))
  have EU5 : Hid (OwnRows u5 bE 51 6 e3.v (m.es.map Ent.enc)) := Lib.hid ⟨World.ownsRow.kept E3.out.1 q5 (by cases h : e3.v.ownBlock with | none => exact .inl rfl | some g => exact .inr (by simp [Value.ownBlock])), E3.out.2⟩
  have BU5 := Lib.hid (B3.out.grown q5 B3.out.size (fun k hk => by cases hk))
  clear o5 q5 h5 c9 L2 M3 O3 B3 E3 HbI
  have E3 : Hid (OwnRows u5 bE 51 6 e3.v (m.es.map Ent.enc)) := Lib.hid (EU5.out)
  have I3 : Hid (OwnRows u5 bI 29 4 t5.v (m.its.map Item.enc)) := Lib.hid (IU5.out)
  clear EU5 IU5
  go_wp2_with (first | (with_reducible refine wpList_load_whole_st Mr.isRec rfl _ rfl gM (by with_unfolding_all exact rfl) _ _ (Mr.len _) MU5.out ?_) | (with_reducible refine wpList_load_whole_st Mr.isRec rfl _ rfl gO (by with_unfolding_all exact rfl) _ _ (Mr.len _) OU5.out ?_) | (with_reducible refine wpList_put_cell 25 ⟨by kernel_rfl, by kernel_rfl⟩ rfl _ _ rfl gM 10 (by with_unfolding_all exact rfl) (t5.v) (by with_unfolding_all exact rfl) (by with_unfolding_all exact rfl) (by with_unfolding_all exact rfl) _ _ MU5.out _ (by with_unfolding_all exact rfl) ?_))
  intro w4 q4 x4 z4
  have M4 : Hid (Mr.At w4 gM (m.raw e3 t5)) := Lib.hid x4
  have O4 : Hid (Mr.At w4 gO Mr.zero) := Lib.hid (grown_far OU5.out q4 (by have := N_M_O.out; omega))
  have E4 : Hid (OwnRows w4 bE 51 6 e3.v (m.es.map Ent.enc)) := Lib.hid (E3.out.far q4 (fun e => by have := (E3.out.lt _ e).1; have := A_M_E.out; omega))
  have I4 : Hid (OwnRows w4 bI 29 4 t5.v (m.its.map Item.enc)) := Lib.hid (I3.out.far q4 (fun e => by have := (I3.out.lt _ e).1; have := A_M_I.out; omega))
  have B4 := Lib.hid (BU5.out.grown q4 BU5.out.size (fun k hk => by injection hk with hk; have := M_M.out; omega))
  clear q4 x4 z4 MU5 OU5 E3 I3 BU5
  go_wp2_with (first | (with_reducible refine wpList_load_whole_st Mr.isRec rfl _ rfl gM (by with_unfolding_all exact rfl) _ _ (Mr.len _) M4.out ?_) | (with_reducible refine wpList_load_whole_st Mr.isRec rfl _ rfl gO (by with_unfolding_all exact rfl) _ _ (Mr.len _) O4.out ?_) | (with_reducible refine wpList_store_whole rfl 27 _ _ rfl gO (m.raw e3 t5).enc.toArray (by with_unfolding_all exact rfl) (by with_unfolding_all exact rfl) _ _ O4.out (Mr.size _) rfl (Mr.one _) ?_))
  intro w5 q5 x5 z5
  have O5 : Hid (Mr.At w5 gO (m.raw e3 t5)) := Lib.hid x5
  have M5 : Hid (Mr.At w5 gM (m.raw e3 t5)) := Lib.hid (grown_far M4.out q5 (by have := N_M_O.out; omega))
  have E5 : Hid (OwnRows w5 bE 51 6 e3.v (m.es.map Ent.enc)) := Lib.hid (E4.out.far q5 (fun e => by have := (E4.out.lt _ e).1; have := A_O_E.out; omega))
  have I5 : Hid (OwnRows w5 bI 29 4 t5.v (m.its.map Item.enc)) := Lib.hid (I4.out.far q5 (fun e => by have := (I4.out.lt _ e).1; have := A_O_I.out; omega))
  have B5 := Lib.hid (B4.out.grown q5 B4.out.size (fun k hk => by injection hk with hk; have := M_O.out; omega))
  clear q5 x5 z5 O4 M4 E4 I4 B4
  go_wp2
  exact bodyPost_ret (results_st Mr.isRec rfl _ _ _ _ _ rfl rfl O5.out) rfl ⟨e3, t5, rfl, ⟨E5.out.less T_E.out, I5.out.less T_I.out⟩, B5.out⟩
end Go.Proofs.Ytnjeopgcpffkcaa

namespace Go.Proofs.Ytnjeopgcpffkcaa
set_option maxRecDepth 100000
open Go.RowKit

theorem RfS.apart {w w' : World} {g h : Nat} {A : Option Addr} {cap : Nat} {b : List UInt8} {s : RS} (H : RfS w g A cap b s) (hg : w.grownBy w' (some h)) (hn : g ≠ h) (hA : b ≠ [] → ∀ ad, A = some ad → ad.block ≠ h) : RfS w' g A cap b s := by
  obtain ⟨p, hr, hp, hl, ho, hB, hA'⟩ := H
  exact ⟨p, Whole.grown hr hg (fun e => hn (by injection e)), hp, hl, ho, RfS.kept hB hA hg, hA'⟩
theorem RfS.belowR {w w' : World} {g : Nat} {A : Option Addr} {cap : Nat} {b : List UInt8} {s : RS} (H : RfS w g A cap b s) (hb : Below w.heap.size w w') : RfS w' g A cap b s := by
  obtain ⟨p, hr, hp, hl, ho, hB, hA⟩ := H
  exact ⟨p, Whole.below hr hb (Whole.lt hr), hp, hl, ho, hB.below hb, hA⟩
theorem RdS.belowR {w w' : World} {g : Nat} {s : RS} (H : RdS w g s) (hb : Below w.heap.size w w') : RdS w' g s := ⟨Whole.below H.1 hb (Whole.lt H.1), H.2⟩
theorem RdS.apart {w w' : World} {g h : Nat} {s : RS} (H : RdS w g s) (hg : w.grownBy w' (some h)) (hn : g ≠ h) : RdS w' g s := ⟨Whole.grown H.1 hg (fun e => hn (by injection e)), H.2⟩

/-- While the document reads: r is the result, g the reader, x the entry. -/
structure Rf6 (w0 : World) (r g x : Nat) (A : Option Addr) (cap : Nat) (b : List UInt8) (w : World) (e : Ent) (s : RS) : Prop where
  ent : EntAt w x e
  res : EntAt w r ent0
  rd : RfS w g A cap b s
  low : Below w0.heap.size w0 w
  rg : r < g
  gx : g < x
  r0 : w0.heap.size ≤ r
  xz : x < w.heap.size
  far : b ≠ [] → ∀ ad, A = some ad → ad.block < w0.heap.size
section
variable {w0 : World} {r g x : Nat} {A : Option Addr} {cap : Nat} {b : List UInt8} {w w' : World} {e e' : Ent} {s s' : RS}
theorem Rf6.call (H : Rf6 w0 r g x A cap b w e s) (hr : RfS w' g A cap b s') (hg : w.grownBy w' (some g)) : Rf6 w0 r g x A cap b w' e s' where
  ent := Whole.grown H.ent hg (fun k => by injection k with k; have := H.gx; omega)
  res := Whole.grown H.res hg (fun k => by injection k with k; have := H.rg; omega)
  rd := hr
  low := H.low.grown hg H.low.size (fun k hk => by injection hk with hk; have := H.rg; have := H.r0; omega)
  rg := H.rg
  gx := H.gx
  r0 := H.r0
  xz := Nat.lt_of_lt_of_le H.xz hg.size
  far := H.far
theorem Rf6.put (H : Rf6 w0 r g x A cap b w e s) {i : Nat} {u : Value} (h : EntAt (w.setCell ⟨x, i, none⟩ u) x e') : Rf6 w0 r g x A cap b (w.setCell ⟨x, i, none⟩ u) e' s where
  ent := h
  res := Whole.grown H.res (grown_store w x i u) (fun k => by injection k with k; have := H.rg; have := H.gx; omega)
  rd := H.rd.apart (grown_store w x i u) (by have := H.gx; omega) (fun hb ad k => by have := H.far hb ad k; have := H.r0; have := H.rg; have := H.gx; omega)
  low := H.low.grown (grown_store w x i u) H.low.size (fun k hk => by injection hk with hk; have := H.rg; have := H.r0; have := H.gx; omega)
  rg := H.rg
  gx := H.gx
  r0 := H.r0
  xz := by have := H.xz; simpa using this
  far := H.far
theorem Rf6.whole (H : Rf6 w0 r g x A cap b w e s) (hg : w.grownBy w' (some x)) (h : EntAt w' x e') : Rf6 w0 r g x A cap b w' e' s where
  ent := h
  res := Whole.grown H.res hg (fun k => by injection k with k; have := H.rg; have := H.gx; omega)
  rd := H.rd.apart hg (by have := H.gx; omega) (fun hb ad k => by have := H.far hb ad k; have := H.r0; have := H.rg; have := H.gx; omega)
  low := H.low.grown hg H.low.size (fun k hk => by injection hk with hk; have := H.rg; have := H.r0; have := H.gx; omega)
  rg := H.rg
  gx := H.gx
  r0 := H.r0
  xz := Nat.lt_of_lt_of_le H.xz hg.size
  far := H.far
end
end Go.Proofs.Ytnjeopgcpffkcaa
