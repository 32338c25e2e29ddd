/- Slices of api.Peer: a row of one, the first place that fits; the library's IndexFunc and ContainsFunc over whatever closure tells of one. (Written by tools/mkslice.py.) -/
import Derived.Test.YtknccbdcfpncnaaRecPe
import Derived.Test.YtknccbdcfpncnaaSlG
import Derived.Test.YtknccbdcfpncnaaUs
import Derived.Test.YtknccbdcfpncnaaGenR
import Derived.Deep.LoopGhost
import Derived.BigQuiet
namespace Go.Proofs.Ytknccbdcfpncnaa
set_option maxRecDepth 100000
open Go.RowKit

/-- The cells of one element of a slice, for as long as nothing that was there is changed. -/
theorem row_ofPe {A : Option Addr} {m cap k : Nat} {l : List Peer} {w : World} {x : Peer} (h : RowsAt w (.slice A m cap) 8 (l.map Peer.enc)) (hx : l[k]? = some x) :
    ∃ b off, A = some ⟨b, off, none⟩ ∧ ∀ w', Below w.heap.size w w' → ∀ j u, x.enc[j]? = some u → w'.cell? ⟨b, off + k * 8 + j, none⟩ = some u := by
  obtain ⟨b, off, rfl, hbl, hc⟩ := h.row (fun c hc => by obtain ⟨y, _, rfl⟩ := List.mem_map.1 hc; exact y.len) (by decide) (by rw [List.getElem?_map, hx]; rfl : (l.map Peer.enc)[k]? = some x.enc)
  exact ⟨b, off, rfl, fun w' hb j u hj => (hb.cell (p := ⟨b, off + k * 8 + j, none⟩) hbl).trans (hc j u hj)⟩

/-- The first place that fits. -/
def firstPe (p : Peer → Bool) : List Peer → Nat → Int
  | [], _ => -1
  | s :: r, k => if p s then (k : Int) else firstPe p r (k + 1)
/-- A closure that tells of each one what p tells. -/
def TellsPe (W : World) (F : FuncId) (caps : Array Value) (p : Peer → Bool) : Prop :=
  (∀ args w, (callFunc F args).run Try.prog w = .ok (.enter F args) w) ∧ ∀ (s : Peer) (w : World), Below W.heap.size W w → Calls Try.prog F (#[s.val] ++ caps) w fun e w' => e = .returned (.bool (p s)) ∧ Below w.heap.size w w'
theorem TellsPe.below {W w : World} {F : FuncId} {caps : Array Value} {p : Peer → Bool} (h : TellsPe W F caps p) (b : Below W.heap.size W w) : TellsPe w F caps p := ⟨h.1, fun s w' hb => h.2 s w' (b.trans (hb.mono b.size))⟩
theorem firstPe_none {p : Peer → Bool} {l : List Peer} (k : Nat) (h : ∀ x ∈ l, p x = false) : firstPe p l k = -1 := by
  induction l generalizing k with
  | nil => rfl
  | cons x r ih => rw [firstPe, h x (List.mem_cons_self ..)]; exact ih _ fun y hy => h y (List.mem_cons_of_mem _ hy)

theorem firstPe_le (p : Peer → Bool) (l : List Peer) (k : Nat) : firstPe p l k < (k + l.length : Nat) ∧ -1 ≤ firstPe p l k := by
  induction l generalizing k with
  | nil => rw [firstPe]; constructor <;> simp <;> omega
  | cons x r ih =>
    rw [firstPe]
    have := ih (k + 1)
    split
    · constructor <;> simp <;> omega
    · constructor <;> simp at * <;> omega
theorem firstPe_any (p : Peer → Bool) (l : List Peer) (k : Nat) : decide (0 ≤ firstPe p l k) = l.any p := by
  induction l generalizing k with
  | nil => simp [firstPe]
  | cons x r ih =>
    rw [firstPe, List.any_cons]
    cases hp : p x with
    | true => rw [if_pos rfl, Bool.true_or, decide_eq_true_eq]; omega
    | false => rw [if_neg (by simp), Bool.false_or, ih]
theorem firstPe_spec (p : Peer → Bool) (l : List Peer) (j : Nat) :
    (firstPe p l j = -1 ∧ ∀ x ∈ l, p x = false) ∨ ∃ k x, firstPe p l j = ((j + k : Nat) : Int) ∧ l[k]? = some x ∧ p x = true ∧ ∀ y ∈ l.take k, p y = false := by
  induction l generalizing j with
  | nil => exact .inl ⟨rfl, fun x hx => by cases hx⟩
  | cons x r ih =>
    rw [firstPe]
    cases hp : p x with
    | true => exact .inr ⟨0, x, by simp, rfl, hp, fun y hy => by simp at hy⟩
    | false =>
      rcases ih (j + 1) with ⟨h, h'⟩ | ⟨k, y, h, h1, h2, h3⟩
      · refine .inl ⟨by rw [if_neg (by simp)]; exact h, fun y hy => ?_⟩
        rcases List.mem_cons.1 hy with rfl | hy
        · exact hp
        · exact h' y hy
      · refine .inr ⟨k + 1, y, by rw [if_neg (by simp), h]; omega, by rw [List.getElem?_cons_succ]; exact h1, h2, fun z hz => ?_⟩
        rw [List.take_succ_cons] at hz
        rcases List.mem_cons.1 hz with rfl | hz
        · exact hp
        · exact h3 z hz

set_option maxRecDepth 100000
set_option maxHeartbeats 1000000 in
theorem indexFuncPe_any (F : FuncId) (caps : Array Value) (p : Peer → Bool) (A : Option Addr) (m cap : Nat) (l : List Peer) (w : World) (hm : m ≤ 1000000) (h : RowsAt w (.slice A m cap) 8 (l.map Peer.enc)) (hT : TellsPe w F caps p) :
    Calls Try.prog 36 #[.slice A m cap, .func (.func F) #[] caps] w fun e w' => e = .returned (.int .i64 (firstPe p l 0)) ∧ Below w.heap.size w w' := by
  have hlen := h.size.1
  rw [List.length_map] at hlen
  have H := Lib.hid h
  have HL := Lib.hid hlen
  have eg := hT.1
  have HC := Lib.hid hT.2
  obtain ⟨R, hR⟩ : ∃ R, R = firstPe p l 0 := ⟨_, rfl⟩
  have HR : Hid (firstPe p (l.drop 0) 0 = R) := Lib.hid (by rw [hR]; rfl)
  rw [← hR]
  clear h hlen hR hT
  go_enter Try.func36, Try.ntmps36
  go_wp2_with fail
  go_loopw [8] (fun i wr => ∃ k : Nat, k ≤ m ∧ i = .int .i64 (k : Int) ∧ firstPe p (l.drop k) k = R ∧ Below w.heap.size w wr) (fun i _ => m - (intOf i).toNat)
  case atStart => exact ⟨0, Nat.zero_le _, rfl, HR.out, Below.refl _ _⟩
  case round =>
    obtain ⟨k, hk, rfl, hr, hb⟩ := hrel
    have HK := Lib.hid hr
    have B0 := Lib.hid hb
    clear hr hb HR
    by_cases hlt : k < m
    · have dk : decide ((k : Int) < (m : Int)) = true := by simp; omega
      obtain ⟨x, hx⟩ : ∃ x, l[k]? = some x := ⟨_, List.getElem?_eq_getElem (by rw [← HL.out]; exact hlt)⟩
      obtain ⟨b, off, rfl, hc⟩ := row_ofPe H.out hx
      have HX := Lib.hid (hc wr B0.out)
      have HD := Lib.hid (drop_at hx)
      have CP := Lib.hid (HC.out x wr B0.out)
      have jk : (k : Int) < (m : Int) := by omega
      have r4 : IntKind.i64.wrap ((k : Int) + 1) = ((k + 1 : Nat) : Int) := by rw [IntWalk.i64_in _ (by omega)]; omega
      obtain ⟨q, hq⟩ : ∃ q, q = p x := ⟨_, rfl⟩
      simp only [← hq] at CP
      have HV : Hid ((if q = true then (k : Int) else firstPe p (l.drop (k + 1)) (k + 1)) = R) := Lib.hid (by have t := HK.out; rw [HD.out, firstPe, ← hq] at t; exact t)
      clear hc hx hq HK HD
      go_wp2_with (with_reducible refine wpList_load_rec Peer.isRec rfl _ rfl b (off + k * 8) (by with_unfolding_all exact rfl) x.enc (Peer.len _) HX.out ?_)
      refine CP.out.mono ?_
      rintro e w1 ⟨rfl, b1⟩
      have B1 := Lib.hid (B0.out.trans (b1.mono B0.out.size))
      clear b1 HX CP
      cases q with
      | true =>
        have HW : Hid ((k : Int) = R) := Lib.hid (by have t := HV.out; exact t)
        clear HV
        go_wp2
        go_ret
        exact ⟨by rw [← HW.out]; rfl, B1.out⟩
      | false =>
        go_wp2
        exact ⟨⟨k + 1, by omega, by go_num, by have t := HV.out; exact t, B1.out⟩, by simp [intOf]; omega⟩
    · obtain rfl : k = m := by omega
      have dk : decide ((k : Int) < (k : Int)) = false := by simp
      have HV : Hid ((-1 : Int) = R) := Lib.hid (by have q := HK.out; rw [List.drop_eq_nil_of_le (by rw [← HL.out]; exact Nat.le_refl _)] at q; exact q)
      go_wp2
      go_ret
      exact ⟨by rw [← HV.out]; rfl, B0.out⟩

set_option maxHeartbeats 1000000 in
theorem containsFuncPe_any (F : FuncId) (caps : Array Value) (p : Peer → Bool) (A : Option Addr) (m cap : Nat) (l : List Peer) (w : World) (hm : m ≤ 1000000) (h : RowsAt w (.slice A m cap) 8 (l.map Peer.enc)) (hT : TellsPe w F caps p) :
    Calls Try.prog 41 #[.slice A m cap, .func (.func F) #[] caps] w fun e w' => e = .returned (.bool (l.any p)) ∧ Below w.heap.size w w' := by
  have CI := Lib.hid (indexFuncPe_any F caps p A m cap l w hm h hT)
  obtain ⟨q, hq⟩ : ∃ q, q = l.any p := ⟨_, rfl⟩
  have e1 := firstPe_any p l 0
  rw [← hq] at e1 ⊢
  obtain ⟨R, hR⟩ : ∃ R, R = firstPe p l 0 := ⟨_, rfl⟩
  simp only [← hR] at CI e1
  have e2 : decide (R ≥ 0) = q := e1
  clear hq hR h hT
  go_enter Try.func41, Try.ntmps41
  go_wp2_with fail
  refine CI.out.mono ?_
  rintro e w2 ⟨rfl, b2⟩
  have B2 := Lib.hid b2
  clear b2 CI
  go_wp2
  go_ret
  exact ⟨rfl, B2.out⟩
end Go.Proofs.Ytknccbdcfpncnaa
