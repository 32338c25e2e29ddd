/- Layer 24: the document's First, Entries, Before. -/
import Derived.Test.YtknccbdcfpncnaaPnL
import Derived.Test.YtknccbdcfpncnaaSlEnS
namespace Go.Proofs.Ytknccbdcfpncnaa
set_option maxRecDepth 100000
open Go.RowKit

set_option maxRecDepth 100000
theorem ents_step {l : List Peer} {k : Nat} {x : Peer} (hx : l[k]? = some x) : ((l.take (k + 1)).map Peer.entry).map Ent.enc = ((l.take k).map Peer.entry).map Ent.enc ++ [x.entry.enc] := by
  rw [List.take_add_one, hx]; simp
set_option maxHeartbeats 1000000 in
theorem refFirst_any (A : Option Addr) (m cap : Nat) (l : List Peer) (n : Int) (base : Nat) (w : World) (hb : base ≤ w.heap.size) (hl : l.length ≤ 100000) (h : RowsAt w (.slice A m cap) 8 (l.map Peer.enc)) :
    Calls Try.prog 23 #[.slice A m cap, .int .i64 n] w fun e w' => ∃ v, e = .returned v ∧ OwnRows w' base 24 6 v ((firstsQ l n).map Ent.enc) ∧ Below w.heap.size w w' := by
  have hm : m = l.length := by have := h.size.1; simpa using this
  subst hm
  have H := Lib.hid h
  have HB := Lib.hid hb
  have HL := Lib.hid hl
  obtain ⟨t, ht⟩ : ∃ t, t = min n.toNat l.length := ⟨_, rfl⟩
  have HF : Hid (firstsQ l n = (l.take t).map Peer.entry) := Lib.hid (by rw [firstsQ, ht, ← List.take_eq_take_min])
  have HT := Lib.hid ht
  clear h hb hl ht
  go_enter Try.func23, Try.ntmps23
  go_wp2_with fail
  go_loopw [5, 6] (fun v i wr => ∃ k : Nat, k ≤ t ∧ i = .int .i64 (k : Int) ∧ OwnRows wr w.heap.size 24 6 v (((l.take k).map Peer.entry).map Ent.enc) ∧ Below w.heap.size w wr) (fun _ i _ => t - (intOf i).toNat)
  case atStart => exact ⟨0, Nat.zero_le _, rfl, OwnRows.nil _ _ _ _, Below.refl _ _⟩
  case round =>
    obtain ⟨k, hk, rfl, ho, hb⟩ := hrel
    have O0 := Lib.hid ho
    have B0 := Lib.hid hb
    clear ho hb
    by_cases hlt : k < t
    · have hkl : k < l.length := by have := HT.out; omega
      have dk : decide ((k : Int) < (l.length : Int)) = true := by simp; omega
      have dkn : decide (k < l.length) = true := by simp; omega
      have dn : decide ((k : Int) < n) = true := by have := HT.out; simp; omega
      obtain ⟨x, hx⟩ : ∃ x, l[k]? = some x := ⟨_, List.getElem?_eq_getElem hkl⟩
      obtain ⟨b, off, rfl, hc⟩ := row_ofPe H.out hx
      have HX : Hid (∀ q u, x.entry.enc[q]? = some u → wr.cell? ⟨b, off + k * 8 + q, none⟩ = some u) := Lib.hid (fun q u hu => hc wr B0.out q u (entry_cells x hu))
      have jk : (k : Int) < (l.length : Int) := by omega
      have r4 : IntKind.i64.wrap ((k : Int) + 1) = ((k + 1 : Nat) : Int) := by have := HL.out; rw [IntWalk.i64_in _ (by omega)]; omega
      have HS := Lib.hid (ents_step hx)
      have HN : Hid ((((l.take k).map Peer.entry).map Ent.enc).length + [x.entry.enc].length ≤ 10000000) := Lib.hid (by have := HL.out; rw [List.length_map, List.length_map, List.length_take, List.length_singleton]; omega)
      clear hc hx hkl
      go_wp2_with (first | (with_reducible refine wpList_load_rec Ent.isRec rfl _ rfl b (off + k * 8) (by with_unfolding_all exact rfl) x.entry.enc (Ent.len _) HX.out ?_) | (with_reducible refine Ent.wpList_one rfl _ rfl x.entry (by with_unfolding_all exact rfl) ?_))
      intro w2 b2 y2 z2
      have Y2 := Lib.hid y2
      have O2 := Lib.hid (O0.out.below b2 rfl)
      have B2 := Lib.hid (B0.out.trans (b2.mono B0.out.size))
      clear b2 y2 z2 HX O0 B0
      go_wp2_with (with_reducible refine wpList_append_rows Ent.isElem rfl _ _ rfl u5 (by with_unfolding_all exact rfl) O2.out _ [x.entry.enc] (by with_unfolding_all exact rfl) Y2.out (fun c hc => by rw [List.mem_singleton] at hc; rw [hc]; exact Ent.fits _) HN.out B2.out.size ?_)
      intro v3 w3 o3 q3
      have O3 : Hid (OwnRows w3 w.heap.size 24 6 v3 (((l.take (k + 1)).map Peer.entry).map Ent.enc)) := Lib.hid (o3.eqL (by rw [HS.out]; simp [List.map_take]))
      have B3 := Lib.hid (B2.out.grown q3 B2.out.size (fun k hk => (O2.out.lt k hk).1))
      clear o3 q3 O2 B2 Y2
      go_wp2
      exact ⟨⟨k + 1, by omega, by go_num, O3.out, B3.out⟩, by simp [intOf]; omega⟩
    · have hkt : k = t := by omega
      have HV : Hid (OwnRows wr w.heap.size 24 6 u5 ((firstsQ l n).map Ent.enc)) := Lib.hid (by rw [HF.out, ← hkt]; exact O0.out)
      clear O0
      by_cases hkl : k < l.length
      · have dk : decide ((k : Int) < (l.length : Int)) = true := by simp; omega
        have dkn : decide (k < l.length) = true := by simp; omega
        have dn : decide ((k : Int) < n) = false := by have := HT.out; simp; omega
        clear hkt hlt
        go_wp2
        go_ret
        exact ⟨_, rfl, HV.out.less HB.out, B0.out⟩
      · have dk : decide ((k : Int) < (l.length : Int)) = false := by simp; omega
        have dkn : decide (k < l.length) = false := by simp; omega
        clear hkt hlt
        go_wp2
        go_ret
        exact ⟨_, rfl, HV.out.less HB.out, B0.out⟩

set_option maxHeartbeats 1000000 in
theorem refEntries_any (A : Option Addr) (m cap : Nat) (l : List Peer) (base : Nat) (w : World) (hb : base ≤ w.heap.size) (hl : l.length ≤ 100000) (h : RowsAt w (.slice A m cap) 8 (l.map Peer.enc)) :
    Calls Try.prog 25 #[.slice A m cap] w fun e w' => ∃ v, e = .returned v ∧ OwnRows w' base 24 6 v ((l.map Peer.entry).map Ent.enc) ∧ Below w.heap.size w w' := by
  have hm : m = l.length := by have := h.size.1; simpa using this
  subst hm
  have H := Lib.hid h
  have HB := Lib.hid hb
  have HL := Lib.hid hl
  clear h hb hl
  go_enter Try.func25, Try.ntmps25
  go_wp2_with fail
  go_loopw [3, 4] (fun v i wr => ∃ k : Nat, k ≤ l.length ∧ i = .int .i64 (k : Int) ∧ OwnRows wr w.heap.size 24 6 v (((l.take k).map Peer.entry).map Ent.enc) ∧ Below w.heap.size w wr) (fun _ i _ => l.length - (intOf i).toNat)
  case atStart => exact ⟨0, Nat.zero_le _, rfl, OwnRows.nil _ _ _ _, Below.refl _ _⟩
  case round =>
    obtain ⟨k, hk, rfl, ho, hb⟩ := hrel
    have O0 := Lib.hid ho
    have B0 := Lib.hid hb
    clear ho hb
    by_cases hkl : k < l.length
    · have dk : decide ((k : Int) < (l.length : Int)) = true := by simp; omega
      have dkn : decide (k < l.length) = true := by simp; omega
      obtain ⟨x, hx⟩ : ∃ x, l[k]? = some x := ⟨_, List.getElem?_eq_getElem hkl⟩
      obtain ⟨b, off, rfl, hc⟩ := row_ofPe H.out hx
      have HX : Hid (∀ q u, x.entry.enc[q]? = some u → wr.cell? ⟨b, off + k * 8 + q, none⟩ = some u) := Lib.hid (fun q u hu => hc wr B0.out q u (entry_cells x hu))
      have jk : (k : Int) < (l.length : Int) := by omega
      have r4 : IntKind.i64.wrap ((k : Int) + 1) = ((k + 1 : Nat) : Int) := by have := HL.out; rw [IntWalk.i64_in _ (by omega)]; omega
      have HS := Lib.hid (ents_step hx)
      have HN : Hid ((((l.take k).map Peer.entry).map Ent.enc).length + [x.entry.enc].length ≤ 10000000) := Lib.hid (by have := HL.out; rw [List.length_map, List.length_map, List.length_take, List.length_singleton]; omega)
      clear hc hx
      go_wp2_with (first | (with_reducible refine wpList_load_rec Ent.isRec rfl _ rfl b (off + k * 8) (by with_unfolding_all exact rfl) x.entry.enc (Ent.len _) HX.out ?_) | (with_reducible refine Ent.wpList_one rfl _ rfl x.entry (by with_unfolding_all exact rfl) ?_))
      intro w2 b2 y2 z2
      have Y2 := Lib.hid y2
      have O2 := Lib.hid (O0.out.below b2 rfl)
      have B2 := Lib.hid (B0.out.trans (b2.mono B0.out.size))
      clear b2 y2 z2 HX O0 B0
      go_wp2_with (with_reducible refine wpList_append_rows Ent.isElem rfl _ _ rfl u3 (by with_unfolding_all exact rfl) O2.out _ [x.entry.enc] (by with_unfolding_all exact rfl) Y2.out (fun c hc => by rw [List.mem_singleton] at hc; rw [hc]; exact Ent.fits _) HN.out B2.out.size ?_)
      intro v3 w3 o3 q3
      have O3 : Hid (OwnRows w3 w.heap.size 24 6 v3 (((l.take (k + 1)).map Peer.entry).map Ent.enc)) := Lib.hid (o3.eqL (by rw [HS.out]; simp [List.map_take]))
      have B3 := Lib.hid (B2.out.grown q3 B2.out.size (fun k hk => (O2.out.lt k hk).1))
      clear o3 q3 O2 B2 Y2
      go_wp2
      exact ⟨⟨k + 1, by omega, by go_num, O3.out, B3.out⟩, by simp [intOf]; omega⟩
    · have hkt : k = l.length := by omega
      have HV : Hid (OwnRows wr w.heap.size 24 6 u3 ((l.map Peer.entry).map Ent.enc)) := Lib.hid (by have q := O0.out; rw [hkt, List.take_length] at q; exact q)
      have dk : decide ((k : Int) < (l.length : Int)) = false := by simp; omega
      have dkn : decide (k < l.length) = false := by simp; omega
      clear O0
      go_wp2
      go_ret
      exact ⟨_, rfl, HV.out.less HB.out, B0.out⟩

theorem beforeQ_step {me : Ent} {l : List Peer} {k : Nat} {x : Peer} (hx : l[k]? = some x) : beforeQ me (l.take (k + 1)) = x.entry.id := by
  rw [beforeQ, List.take_add_one, hx, Option.toList_some, List.getLast?_append]; rfl
set_option maxHeartbeats 1000000 in
theorem refBefore_any (A : Option Addr) (m cap : Nat) (l : List Peer) (me : Ent) (w : World) (hl : l.length ≤ 100000) (h : RowsAt w (.slice A m cap) 8 (l.map Peer.enc)) :
    Calls Try.prog 27 #[me.val, .slice A m cap] w fun e w' => e = .returned (.int .u64 (beforeQ me l : Int)) ∧ Below w.heap.size w w' := by
  have hm : m = l.length := by have := h.size.1; simpa using this
  subst hm
  have H := Lib.hid h
  have HL := Lib.hid hl
  clear h hl
  go_enter Try.func27, Try.ntmps27
  go_wp2_with (refine wpList_box_row rfl 24 _ rfl me.enc.toArray (by with_unfolding_all exact rfl) ?_)
  intro w1 b1 x1 z1
  obtain ⟨gE, hgE⟩ : ∃ g, g = w.heap.size := ⟨_, rfl⟩
  have M_E := Lib.hid (show w.heap.size ≤ gE from by rw [hgE]; exact Nat.le_refl _)
  have B1 := Lib.hid b1
  rw [← hgE] at x1 ⊢
  have E1 : Hid (Ent.At w1 gE me) := Lib.hid x1
  clear b1 x1 z1 hgE 
  have c1 := Ent.At.at_id E1.out
  go_wp2_with fail
  go_loop [5, 6] (fun v i => ∃ k : Nat, k ≤ l.length ∧ i = .int .i64 (k : Int) ∧ v = .int .u64 (beforeQ me (l.take k) : Int)) (fun _ i => l.length - (intOf i).toNat)
  case atStart => exact ⟨0, Nat.zero_le _, rfl, rfl⟩
  case round =>
    obtain ⟨k, hk, rfl, rfl⟩ := hrel
    by_cases hkl : k < l.length
    · have dk : decide ((k : Int) < (l.length : Int)) = true := by simp; omega
      have dkn : decide (k < l.length) = true := by simp; omega
      obtain ⟨x, hx⟩ : ∃ x, l[k]? = some x := ⟨_, List.getElem?_eq_getElem hkl⟩
      obtain ⟨b, off, rfl, hc⟩ := row_ofPe H.out hx
      have c2 : w1.cell? ⟨b, off + k * 8 + 1, none⟩ = some (.int .u64 (x.entry.id : Int)) := hc _ B1.out 1 _ rfl
      have jk : (k : Int) < (l.length : Int) := by omega
      have r4 : IntKind.i64.wrap ((k : Int) + 1) = ((k + 1 : Nat) : Int) := by have := HL.out; rw [IntWalk.i64_in _ (by omega)]; omega
      have HS : Hid (beforeQ me (l.take (k + 1)) = x.entry.id) := Lib.hid (beforeQ_step hx)
      clear hc hx
      go_wp2
      exact ⟨⟨k + 1, by omega, by go_num, by rw [HS.out]⟩, by simp [intOf]; omega⟩
    · have hkt : k = l.length := by omega
      have dk : decide ((k : Int) < (l.length : Int)) = false := by simp; omega
      have dkn : decide (k < l.length) = false := by simp; omega
      have HV : Hid (beforeQ me (l.take k) = beforeQ me l) := Lib.hid (by rw [hkt, List.take_length])
      clear hkt hkl
      go_wp2
      go_ret
      exact ⟨by rw [← HV.out]; rfl, B1.out⟩
end Go.Proofs.Ytknccbdcfpncnaa
