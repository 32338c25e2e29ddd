/- What holds of all that an office issued; whether one of the names follows (last). -/
import Derived.Test.YtfcjemedheccgaaDoorMOfY
import Derived.Test.YtfcjemedheccgaaDoorGbh
namespace Go.Proofs.YtfcjemedheccgaaDoor
set_option maxRecDepth 100000
open Go.RowKit

/-- What an office issued: the entries of its index hold, and each older one was revoked or has a later one. -/
structure OS.Held (s : OS) : Prop where
  nn : 0 ≤ s.idx
  mid : s.idx ≤ s.len
  top : s.len ≤ 64
  one : ∀ e ∈ s.issued, entR e = true ∧ e.index ≤ s.idx ∧ (e.index = s.idx → checkT s.key e = true)
  two : ∀ i e, s.issued[i]? = some e → e.index ≠ s.idx → e.name ∈ s.gone ∨ e.name ∈ (s.issued.drop (i + 1)).map (·.name)
theorem more_two {A B : List Ent} {g : List (List UInt8)} {k : Int} (hA : ∀ i e, A[i]? = some e → e.index ≠ k → e.name ∈ g ∨ e.name ∈ (A.drop (i + 1)).map (·.name) ∨ e.name ∈ B.map (·.name)) (hB : ∀ e ∈ B, e.index = k) :
    ∀ i e, (A ++ B)[i]? = some e → e.index ≠ k → e.name ∈ g ∨ e.name ∈ ((A ++ B).drop (i + 1)).map (·.name) := by
  intro i e hi hne
  by_cases hlt : i < A.length
  · rw [List.getElem?_append_left hlt] at hi
    rw [List.drop_append_of_le_length (by omega), List.map_append, List.mem_append]
    exact hA i e hi hne
  · rw [List.getElem?_append_right (by omega)] at hi
    exact absurd (hB e (List.mem_of_getElem? hi)) hne
theorem sign_right {e : Ent} {k : List UInt8} {j : Int} (h : entR e = true) (h0 : 0 ≤ j) (h1 : j ≤ 64) : entR (signE k { e with index := j }) = true := by
  simp only [entR, Bool.and_eq_true, decide_eq_true_eq] at h ⊢
  obtain ⟨⟨⟨⟨⟨⟨q1, _⟩, q3⟩, q4⟩, q5⟩, _⟩, _⟩ := h
  exact ⟨⟨⟨⟨⟨⟨q1, sign_tag _ _⟩, q3⟩, q4⟩, q5⟩, h0⟩, h1⟩
theorem iss_parts {s : OS} {n : List UInt8} {f u : Int} (h : issC s n f u = 0) : nameB n = true ∧ ¬ argBad f u := by
  rw [issC] at h
  split at h
  · exact absurd h (by decide)
  · rename_i h1
    split at h
    · exact absurd h (by decide)
    · split at h
      · exact absurd h (by decide)
      · rename_i h3
        exact ⟨by simpa using h1, h3⟩
theorem OS.Held.iss {s : OS} (h : s.Held) (n : List UInt8) (id : Nat) (f u : Int) : (issS s n id f u).Held := by
  rw [issS]
  split
  · rename_i hc
    obtain ⟨hn, ha⟩ := iss_parts hc
    simp only [argBad, not_or, Int.not_lt] at ha
    refine ⟨h.nn, h.mid, h.top, ?_, ?_⟩
    · intro e he
      rcases List.mem_append.1 he with q | q
      · exact h.one e q
      · rw [List.mem_singleton] at q
        subst q
        refine ⟨?_, Int.le_refl _, fun _ => sign_checks _ _⟩
        have h1 := h.nn
        have h2 := h.mid
        have h3 := h.top
        simp only [entR, Bool.and_eq_true, decide_eq_true_eq]
        exact ⟨⟨⟨⟨⟨⟨hn, sign_tag _ _⟩, ha.1⟩, ha.2.1⟩, ha.2.2⟩, h1⟩, Int.le_trans h2 h3⟩
    · exact more_two (fun i e hi hne => (h.two i e hi hne).imp (fun q => q) .inl) (fun e he => by rw [List.mem_singleton] at he; subst he; rfl)
  · exact h
theorem OS.Held.mark {s : OS} (h : s.Held) (n : List UInt8) : (s.mark n).Held :=
  ⟨h.nn, h.mid, h.top, h.one, fun i e hi hne => (h.two i e hi hne).imp (List.mem_append_left _) (fun q => q)⟩
theorem OS.Held.adv {s : OS} (h : s.Held) : (advS s).Held := by
  rw [advS]
  split
  · exact h
  · rename_i hx
    have h1 := h.nn
    have h2 := h.mid
    have h3 := h.top
    refine ⟨by show 0 ≤ s.idx + 1; omega, by show s.idx + 1 ≤ s.len; omega, h.top, ?_, ?_⟩
    · intro e he
      rcases List.mem_append.1 he with q | q
      · obtain ⟨q1, q2, -⟩ := h.one e q
        exact ⟨q1, by show e.index ≤ s.idx + 1; omega, fun k => by have k' : e.index = s.idx + 1 := k; omega⟩
      · obtain ⟨x, hx', rfl⟩ := List.mem_map.1 q
        exact ⟨sign_right (h.one x (latest_from _ _ x hx')).1 (by show 0 ≤ s.idx + 1; omega) (by show s.idx + 1 ≤ 64; omega), Int.le_refl _, fun _ => sign_checks _ _⟩
    · refine more_two (fun i e hi hne => ?_) (fun e he => by obtain ⟨x, _, rfl⟩ := List.mem_map.1 he; rfl)
      by_cases hg : e.name ∈ s.gone
      · exact .inl hg
      · obtain ⟨x, hx1, hx2⟩ := latest_has s.gone s.issued e.name hg (List.mem_map.2 ⟨e, List.mem_of_getElem? hi, rfl⟩)
        exact .inr (.inr (List.mem_map.2 ⟨s.next.sign x, List.mem_map.2 ⟨x, hx1, rfl⟩, hx2⟩))
theorem OS.Held.rev {s : OS} (h : s.Held) (n : List UInt8) : (revS s n).Held := by
  rw [revS]
  split
  · exact (h.mark n).adv
  · exact h
theorem OS.Held.deed {s : OS} (h : s.Held) (d : Deed) : (deedS s d).Held := by
  rw [deedS]
  split
  · exact h.iss _ _ _ _
  · split
    · exact h.adv
    · split
      · exact h.rev _
      · exact h
theorem OS.Held.deeds {s : OS} (h : s.Held) (l : List Deed) : (deedsS s l).Held :=
  snocInd (p := fun l => (deedsS s l).Held) h (fun l d ih => by rw [deedsS_snoc]; exact ih.deed d) l
theorem OS.Held.new {seed : List UInt8} {len : Int} (h0 : 0 ≤ len) (h1 : len ≤ 64) : OS.Held ⟨seed, len, 0, [], []⟩ :=
  ⟨Int.le_refl _, h0, h1, fun e he => (by cases he), fun i e hi => (by cases hi)⟩
/-- What the gate says of one, at either end of its time. -/
def wantC (gi : Int) (e : Ent) : Int := if e.index < gi then 33 else 0
theorem OS.Held.want {s : OS} (h : s.Held) {e : Ent} (he : e ∈ s.issued) : validX s.idx s.key e e.since = wantC s.idx e ∧ validX s.idx s.key e e.till = wantC s.idx e := by
  obtain ⟨h1, h2, h3⟩ := h.one e he
  have h4 : e.since ≤ e.till := by
    simp only [entR, Bool.and_eq_true, decide_eq_true_eq] at h1
    exact h1.1.1.1.2
  rw [wantC]
  by_cases hi : e.index < s.idx
  · rw [if_pos hi]
    constructor <;> rw [validX, if_neg (by simp [h1]), if_pos hi]
  · rw [if_neg hi]
    exact ⟨valid_of h1 (by omega) (h3 (by omega)) (Int.le_refl _) h4, valid_of h1 (by omega) (h3 (by omega)) h4 (Int.le_refl _)⟩
def lastB (l : List Ent) (g : List (List UInt8)) (n : List UInt8) : Bool := decide (n ∉ l.map (·.name) ∧ n ∉ g)
theorem OS.Held.last {s : OS} (h : s.Held) {i : Nat} {e : Ent} (hi : s.issued[i]? = some e) (hne : e.index ≠ s.idx) : lastB (s.issued.drop (i + 1)) s.gone e.name = false := by
  rw [lastB, decide_eq_false_iff_not]
  rintro ⟨q1, q2⟩
  exact (h.two i e hi hne).elim q2 q1

set_option maxHeartbeats 2000000 in
theorem last_any (A : Option Addr) (m cap : Nat) (l : List Ent) (A2 : Option Addr) (m2 cap2 : Nat) (gn : List (List UInt8)) (n : List UInt8) (hm : m ≤ 10000000) (hm2 : m2 ≤ 10000000) (w : World) (h : RowsAt w (.slice A m cap) 6 (l.map Ent.enc)) (h2 : RowsAt w (.slice A2 m2 cap2) 1 (nmC gn)) :
    Calls Tryd.prog 21 #[.slice A m cap, .slice A2 m2 cap2, .string ⟨n.toArray⟩] w fun e w' => e = .returned (.bool (lastB l gn n)) ∧ Below w.heap.size w w' := by
  have hlen := h.size.1
  rw [List.length_map] at hlen
  have hlen2 := h2.size.1
  rw [nmC_length] at hlen2
  have H := Lib.hid h
  have H2 := Lib.hid h2
  have HL := Lib.hid hlen
  have HL2 := Lib.hid hlen2
  have HN := Lib.hid hm
  have HN2 := Lib.hid hm2
  obtain ⟨R, hR⟩ : ∃ q, q = lastB l gn n := ⟨_, rfl⟩
  have HR := Lib.hid hR
  rw [← hR]
  clear h h2 hlen hlen2 hm hm2 hR
  go_enter Tryd.func21, Tryd.ntmps21
  go_wp2_with fail
  go_loopw [13] (fun i wr => ∃ k : Nat, k ≤ m ∧ i = .int .i64 (k : Int) ∧ (∀ e ∈ l.take k, e.name ≠ n) ∧ Below w.heap.size w wr) (fun i _ => m - (intOf i).toNat)
  case atStart => exact ⟨0, Nat.zero_le _, rfl, by simp, Below.refl _ _⟩
  case round =>
    obtain ⟨k, hk, rfl, hr, hb⟩ := hrel
    have HK := Lib.hid hr
    have B0 := Lib.hid hb
    clear hr hb
    by_cases hlt : k < m
    · have dk : decide ((k : Int) < (m : Int)) = true := by simp; omega
      have jk : (k : Int) < (m : Int) := by omega
      have r4 : IntKind.i64.wrap ((k : Int) + 1) = ((k + 1 : Nat) : Int) := by have := HN.out; rw [IntWalk.i64_in _ (by omega)]; omega
      obtain ⟨x, hx⟩ : ∃ x, l[k]? = some x := ⟨_, List.getElem?_eq_getElem (by rw [← HL.out]; exact hlt)⟩
      obtain ⟨gl, off, rfl, hgl, hc⟩ := H.out.row (fun c hc => (entC_one l c hc).1) (by decide) (by rw [List.getElem?_map, hx]; rfl : (l.map Ent.enc)[k]? = some x.enc)
      have HC := Lib.hid (fun j u (hj : x.enc[j]? = some u) => (B0.out.cell (p := ⟨gl, off + k * 6 + j, none⟩) hgl).trans (hc j u hj))
      have HT := Lib.hid (take_more hx)
      have HXM := Lib.hid (List.mem_of_getElem? hx)
      clear hx hc hgl
      go_wp2_with (first | (with_reducible refine wpList_load_rec Ent.isRec rfl _ rfl gl (off + k * 6) (by with_unfolding_all exact rfl) x.enc (Ent.len _) HC.out ?_) | (refine wpList_alloc_row rfl 48 rfl ent0.cells ent_zero ?_))
      intro w1 b1 x1 z1
      have X1 := Lib.hid x1
      have B1 := Lib.hid b1
      obtain ⟨gE, hE⟩ : ∃ q, q = wr.heap.size := ⟨_, rfl⟩
      have HEE := Lib.hid hE
      rw [← hE] at X1 ⊢
      clear b1 x1 z1 hE HC
      go_wp2_with (with_reducible refine wpList_store_whole rfl 48 _ _ rfl gE x.cells (by with_unfolding_all exact rfl) (by with_unfolding_all exact rfl) _ _ X1.out (ent_size' _) rfl (Ent.cells_one _) ?_)
      intro w2 q2 x2 z2
      have c0 : w2.cell? ⟨gE, 0, none⟩ = some (.string ⟨x.name.toArray⟩) := Ent.At.at_name (show Ent.At w2 gE x from x2)
      have B2 := Lib.hid (B0.out.trans ((B1.out.grown q2 B1.out.size (fun k hk => by injection hk with hk; have := HEE.out; omega)).mono B0.out.size))
      clear q2 x2 z2 X1 B1 B0 HEE
      by_cases hn : x.name = n
      · have r : (x.name == n) = true := by simp [hn]
        have HV : Hid (R = false) := Lib.hid (by
          rw [HR.out, lastB, decide_eq_false_iff_not]
          exact fun q => q.1 (List.mem_map.2 ⟨x, HXM.out, hn⟩))
        clear hn
        go_wp2
        go_ret
        exact ⟨by rw [HV.out]; rfl, B2.out⟩
      · have r : (x.name == n) = false := by simp [hn]
        have HV : Hid (∀ e ∈ l.take (k + 1), e.name ≠ n) := Lib.hid (by
          intro e he
          rw [HT.out] at he
          rcases List.mem_append.1 he with q | q
          · exact HK.out e q
          · rw [List.mem_singleton] at q; subst q; exact hn)
        clear hn
        go_wp2
        exact ⟨⟨k + 1, by omega, by go_num, HV.out, B2.out⟩, by simp [intOf]; omega⟩
    · have dk : decide ((k : Int) < (m : Int)) = false := by simp; omega
      have HA : Hid (∀ e ∈ l, e.name ≠ n) := Lib.hid (by
        have q := HK.out
        rwa [List.take_of_length_le (by rw [← HL.out]; omega)] at q)
      clear HK
      go_wp2_with fail
      go_loop [24] (fun i => ∃ j : Nat, j ≤ m2 ∧ i = .int .i64 (j : Int) ∧ (∀ x ∈ gn.take j, x ≠ n)) (fun i => m2 - (intOf i).toNat)
      case atStart => exact ⟨0, Nat.zero_le _, rfl, by simp⟩
      case round =>
        obtain ⟨j, hj, rfl, hr⟩ := hrel
        have HK := Lib.hid hr
        clear hr
        by_cases hlt2 : j < m2
        · have dj : decide ((j : Int) < (m2 : Int)) = true := by simp; omega
          have jj : (j : Int) < (m2 : Int) := by omega
          have r5 : IntKind.i64.wrap ((j : Int) + 1) = ((j + 1 : Nat) : Int) := by have := HN2.out; rw [IntWalk.i64_in _ (by omega)]; omega
          obtain ⟨x, hx⟩ : ∃ x, gn[j]? = some x := ⟨_, List.getElem?_eq_getElem (by rw [← HL2.out]; exact hlt2)⟩
          obtain ⟨b, off, rfl, hbl, hc⟩ := H2.out.row (fun c hc => (nmC_one gn c hc).1) (by decide) (by rw [nmC, List.getElem?_map, hx]; rfl : (nmC gn)[j]? = some [.string ⟨x.toArray⟩])
          have c : wr.cell? ⟨b, off + j, none⟩ = some (.string ⟨x.toArray⟩) := (B0.out.cell (p := ⟨b, off + j, none⟩) (by simpa using hbl)).trans (by have := hc 0 _ rfl; rwa [Nat.mul_one] at this)
          have HT : Hid (gn.take (j + 1) = gn.take j ++ [x]) := Lib.hid (by rw [List.take_add_one, hx]; rfl)
          have HXM := Lib.hid (List.mem_of_getElem? hx)
          clear hx hc hbl
          by_cases hn : x = n
          · have r : (x == n) = true := by simp [hn]
            have HV : Hid (R = false) := Lib.hid (by
              rw [HR.out, lastB, decide_eq_false_iff_not]
              exact fun q => q.2 (hn ▸ HXM.out))
            clear hn
            go_wp2
            go_ret
            exact ⟨by rw [HV.out]; rfl, B0.out⟩
          · have r : (x == n) = false := by simp [hn]
            have HV : Hid (∀ y ∈ gn.take (j + 1), y ≠ n) := Lib.hid (by
              intro e he
              rw [HT.out] at he
              rcases List.mem_append.1 he with q | q
              · exact HK.out e q
              · rw [List.mem_singleton] at q; subst q; exact hn)
            clear hn
            go_wp2
            exact ⟨⟨j + 1, by omega, by go_num, HV.out⟩, by simp [intOf]; omega⟩
        · have dj : decide ((j : Int) < (m2 : Int)) = false := by simp; omega
          have HV : Hid (R = true) := Lib.hid (by
            have q := HK.out
            rw [List.take_of_length_le (by rw [← HL2.out]; omega)] at q
            rw [HR.out, lastB, decide_eq_true_eq]
            exact ⟨fun k => by obtain ⟨e, he, hx⟩ := List.mem_map.1 k; exact HA.out e he hx, fun k => q n k rfl⟩)
          go_wp2
          go_ret
          exact ⟨by rw [HV.out]; rfl, B0.out⟩
end Go.Proofs.YtfcjemedheccgaaDoor
