/- Deeds: which are too great; what one makes of an office; the landed and the document's office side by side. -/
import Derived.Test.YtfcjemedheccgaaDoorMRecDe
import Derived.Test.YtfcjemedheccgaaDoorGm
import Derived.BigQuiet
namespace Go.Proofs.YtfcjemedheccgaaDoor
set_option maxRecDepth 100000
open Go.RowKit

def greatD (l : List Deed) : Bool := decide (20 < l.length) || l.any fun d => decide (300 < d.name.length)
theorem greatD_no {l : List Deed} (h : greatD l = false) : l.length ≤ 20 ∧ ∀ d ∈ l, d.name.length ≤ 300 := by
  rw [greatD, Bool.or_eq_false_iff, decide_eq_false_iff_not, List.any_eq_false] at h
  exact ⟨by omega, fun d hd => by have := h.2 d hd; simp at this; omega⟩
theorem deedC_one (l : List Deed) : ∀ c ∈ l.map Deed.enc, c.length = 5 ∧ ∀ u ∈ c, u.oneCell' = true := by
  intro c hc
  obtain ⟨x, -, rfl⟩ := List.mem_map.1 hc
  exact ⟨x.len, x.fits.one⟩
set_option maxHeartbeats 1000000 in
theorem greatD_any (A : Option Addr) (m cap : Nat) (l : List Deed) (w : World) (h : RowsAt w (.slice A m cap) 5 (l.map Deed.enc)) :
    Calls Tryd.prog 6 #[.slice A m cap] w fun e w' => e = .returned (.bool (greatD l)) ∧ w = w' := by
  have hlen := h.size.1
  rw [List.length_map] at hlen
  have H := Lib.hid h
  have HL := Lib.hid hlen
  obtain ⟨R, hR⟩ : ∃ q, q = greatD l := ⟨_, rfl⟩
  have HR : Hid (R = (decide (20 < m) || l.any fun d => decide (300 < d.name.length))) := Lib.hid (by rw [hR, greatD, hlen])
  rw [← hR]
  clear h hlen hR
  by_cases hb : 20 < m
  · have d : decide ((m : Int) > 20) = true := by simp; omega
    have d' : decide ((20 : Int) < (m : Int)) = true := by simp; omega
    have HV : Hid (R = true) := Lib.hid (by rw [HR.out, decide_eq_true hb, Bool.true_or])
    clear hb
    go_enter Tryd.func6, Tryd.ntmps6
    go_wp2
    go_ret
    exact ⟨by rw [HV.out]; rfl, rfl⟩
  · have d : decide ((m : Int) > 20) = false := by simp; omega
    have d' : decide ((20 : Int) < (m : Int)) = false := by simp; omega
    have HN : Hid (m ≤ 20) := Lib.hid (by omega)
    have HR2 : Hid (R = l.any fun d => decide (300 < d.name.length)) := Lib.hid (by rw [HR.out, decide_eq_false hb, Bool.false_or])
    clear hb
    go_enter Tryd.func6, Tryd.ntmps6
    go_wp2_with fail
    go_loop [3] (fun i => ∃ k : Nat, k ≤ m ∧ i = .int .i64 (k : Int) ∧ ∀ d ∈ l.take k, d.name.length ≤ 300) (fun i => m - (intOf i).toNat)
    case atStart => exact ⟨0, Nat.zero_le _, rfl, by simp⟩
    case round =>
      obtain ⟨k, hk, rfl, hr⟩ := hrel
      have HK := Lib.hid hr
      clear hr
      by_cases hlt : k < m
      · have dk : decide ((k : Int) < (m : Int)) = true := by simp; omega
        have jk : (k : Int) < (m : Int) := by omega
        have r4 : IntKind.i64.wrap ((k : Int) + 1) = ((k + 1 : Nat) : Int) := by have := HN.out; rw [IntWalk.i64_in _ (by omega)]; omega
        obtain ⟨x, hx⟩ : ∃ x, l[k]? = some x := ⟨_, List.getElem?_eq_getElem (by rw [← HL.out]; exact hlt)⟩
        obtain ⟨gl, off, rfl, _, hc⟩ := H.out.row (fun c hc => (deedC_one l c hc).1) (by decide) (by rw [List.getElem?_map, hx]; rfl : (l.map Deed.enc)[k]? = some x.enc)
        have c : w.cell? ⟨gl, off + k * 5 + 1, none⟩ = some (.string ⟨x.name.toArray⟩) := hc 1 _ rfl
        have HT : Hid (l.take (k + 1) = l.take k ++ [x]) := Lib.hid (by rw [List.take_add_one, hx]; rfl)
        have HXM := Lib.hid (List.mem_of_getElem? hx)
        clear hc hx
        by_cases hn : 300 < x.name.length
        · have r : decide ((x.name.length : Int) > 300) = true := by simp; omega
          have r' : decide ((300 : Int) < (x.name.length : Int)) = true := by simp; omega
          have r'' : decide (300 < x.name.length) = true := by simp; omega
          have HV : Hid (R = true) := Lib.hid (by rw [HR2.out, List.any_eq_true]; exact ⟨x, HXM.out, by simpa using hn⟩)
          clear hn
          go_wp2
          go_ret
          exact ⟨by rw [HV.out]; rfl, rfl⟩
        · have r : decide ((x.name.length : Int) > 300) = false := by simp; omega
          have r' : decide ((300 : Int) < (x.name.length : Int)) = false := by simp; omega
          have r'' : decide (300 < x.name.length) = false := by simp; omega
          have HV : Hid (∀ d ∈ l.take (k + 1), d.name.length ≤ 300) := Lib.hid (by
            intro d hd
            rw [HT.out] at hd
            rcases List.mem_append.1 hd with q | q
            · exact HK.out d q
            · rw [List.mem_singleton] at q; subst q; omega)
          clear hn
          go_wp2
          exact ⟨⟨k + 1, by omega, by go_num, HV.out⟩, by simp [intOf]; omega⟩
      · have dk : decide ((k : Int) < (m : Int)) = false := by simp; omega
        have HV : Hid (R = false) := Lib.hid (by
          have q := HK.out
          rw [List.take_of_length_le (by rw [← HL.out]; omega)] at q
          rw [HR2.out, List.any_eq_false]
          intro d hd
          have := q d hd
          simp; omega)
        go_wp2
        go_ret
        exact ⟨by rw [HV.out]; rfl, rfl⟩

/-- What a deed makes of an office. -/
def deedS (s : OS) (d : Deed) : OS := if d.kind = 0 then issS s d.name d.id d.since d.till else if d.kind = 1 then advS s else if d.kind = 2 then revS s d.name else s
theorem OS.Ok.deed {s : OS} {N : Nat} (h : s.Ok N) (d : Deed) (hn : d.name.length ≤ 1000) (hi : d.id < 18446744073709551616) : (deedS s d).Ok (2 * N + 2) := by
  rw [deedS]
  split
  · exact (h.iss d.name d.id d.since d.till hn hi).mono (by omega)
  · split
    · exact h.adv.mono (by omega)
    · split
      · exact (h.rev d.name).mono (by omega)
      · exact h.mono (by omega)
def deedsS (s : OS) (l : List Deed) : OS := l.foldl deedS s
theorem deedsS_snoc (s : OS) (l : List Deed) (d : Deed) : deedsS s (l ++ [d]) = deedS (deedsS s l) d := by simp [deedsS]
theorem OS.Ok.deeds {s : OS} (h : s.Ok 0) (l : List Deed) (hn : ∀ d ∈ l, d.name.length ≤ 300 ∧ d.id < 18446744073709551616) : (deedsS s l).Ok (2 ^ (l.length + 1) - 2) := by
  refine snocInd (p := fun l => (∀ d ∈ l, d.name.length ≤ 300 ∧ d.id < 18446744073709551616) → (deedsS s l).Ok (2 ^ (l.length + 1) - 2)) (fun _ => h) (fun l d ih hd => ?_) l hn
  obtain ⟨h1, h2⟩ := hd d (by simp)
  have q := (ih (fun e he => hd e (List.mem_append_left _ he))).deed d (by omega) h2
  rw [deedsS_snoc, List.length_append, List.length_singleton]
  refine q.mono ?_
  have h3 : 2 ^ (l.length + 1 + 1) = 2 * 2 ^ (l.length + 1) := by rw [Nat.pow_succ]; omega
  have h4 : 2 ≤ 2 ^ (l.length + 1) := by rw [Nat.pow_succ]; have := Nat.one_le_two_pow (n := l.length); omega
  omega
theorem OS.Ok.deeds_in {s : OS} (h : s.Ok 0) (l : List Deed) (k : Nat) (hl : l.length ≤ k) (hn : ∀ d ∈ l, d.name.length ≤ 300 ∧ d.id < 18446744073709551616) : (deedsS s l).Ok (2 ^ (k + 1)) :=
  (h.deeds l hn).mono (Nat.le_trans (Nat.sub_le _ _) (Nat.pow_le_pow_right (by decide) (by omega)))

/-- Both offices, apart. -/
structure Both (w : World) (g g2 : Nat) (v u v2 u2 : Value) (s : OS) : Prop where
  off : OffAt w g v u s
  rff : RffAt w g2 v2 u2 s
  dis : ∀ i, Foot g v u i → ¬ Foot g2 v2 u2 i
section
variable {w w' : World} {g g2 : Nat} {v u v2 u2 v' u' : Value} {s s' : OS}
theorem Both.below (h : Both w g g2 v u v2 u2 s) (b : Below w.heap.size w w') : Both w' g g2 v u v2 u2 s := ⟨h.off.below b, h.rff.below b, h.dis⟩
/-- A call of the landed one. -/
theorem rff_kept (r : RffAt w g2 v2 u2 s') (hd : ∀ i, Foot g v u i → ¬ Foot g2 v2 u2 i) (m : Moves (Foot g v u) (Foot g v' u') w w') : RffAt w' g2 v2 u2 s' ∧ ∀ i, Foot g v' u' i → ¬ Foot g2 v2 u2 i :=
  ⟨r.keeps m.keeps (fun i k f => hd i f k), fun i k f => (m.foot i k).elim (fun q => hd i q f) (fun q => by have := r.lt i f; omega)⟩
/-- A call of the document's. -/
theorem off_kept (o : OffAt w g v u s) (hd : ∀ i, Foot g v u i → ¬ Foot g2 v2 u2 i) (m : Moves (Foot g2 v2 u2) (Foot g2 v' u') w w') : OffAt w' g v u s ∧ ∀ i, Foot g v u i → ¬ Foot g2 v' u' i :=
  ⟨o.keeps m.keeps hd, fun i k f => (m.foot i f).elim (hd i k) (fun q => by have := o.lt i k; omega)⟩
end
end Go.Proofs.YtfcjemedheccgaaDoor
