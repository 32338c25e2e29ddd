/- Layer 23: places in a node's sessions: what the document's functions answer. -/
import Derived.Test.YtjohlnpalcmhbaaTbM
import Derived.Test.YtjohlnpalcmhbaaUs
import Derived.Test.YtjohlnpalcmhbaaEnW
import Derived.Test.YtjohlnpalcmhbaaGenR
import Derived.Deep.LoopGhost
import Derived.BigQuiet
namespace Go.Proofs.Ytjohlnpalcmhbaa
set_option maxRecDepth 100000
open Go.RowKit

/-- The cells of one of the sessions of a slice, for as long as nothing that was there is changed. -/
theorem ses_row {A : Option Addr} {m cap k : Nat} {l : List Ses} {w : World} {x : Ses} (h : RowsAt w (.slice A m cap) 20 (l.map Ses.enc)) (hx : l[k]? = some x) :
    ∃ b off, A = some ⟨b, off, none⟩ ∧ ∀ w', Below w.heap.size w w' → ∀ j u, x.enc[j]? = some u → w'.cell? ⟨b, off + k * 20 + j, none⟩ = some u := by
  obtain ⟨b, off, rfl, hbl, hc⟩ := h.row (fun c hc => by obtain ⟨y, _, rfl⟩ := List.mem_map.1 hc; exact y.len) (by decide) (by rw [List.getElem?_map, hx]; rfl : (l.map Ses.enc)[k]? = some x.enc)
  exact ⟨b, off, rfl, fun w' hb j u hj => (hb.cell (p := ⟨b, off + k * 20 + j, none⟩) hbl).trans (hc j u hj)⟩

set_option maxHeartbeats 1000000 in
theorem refById_any (A : Option Addr) (m cap : Nat) (l : List Ses) (n : Nat) (w : World) (hm : m ≤ 1000000) (h : RowsAt w (.slice A m cap) 20 (l.map Ses.enc)) :
    Calls Try.prog 11 #[.slice A m cap, .int .u64 (n : Int)] w fun e w' => e = .returned (.int .i64 (firstS (byIdP n) l 0)) ∧ w' = w := by
  have hlen := h.size.1
  rw [List.length_map] at hlen
  have H := Lib.hid h
  have HL := Lib.hid hlen
  obtain ⟨R, hR⟩ : ∃ R, R = firstS (byIdP n) l 0 := ⟨_, rfl⟩
  have HR : Hid (firstS (byIdP n) (l.drop 0) 0 = R) := Lib.hid (by rw [hR]; rfl)
  rw [← hR]
  clear h hlen hR
  go_enter Try.func11, Try.ntmps11
  go_wp2_with fail
  go_loop [5] (fun i => ∃ k : Nat, k ≤ m ∧ i = .int .i64 (k : Int) ∧ firstS (byIdP n) (l.drop k) k = R) (fun i => m - (intOf i).toNat)
  case atStart => exact ⟨0, Nat.zero_le _, rfl, HR.out⟩
  case round =>
    obtain ⟨k, hk, rfl, hr⟩ := hrel
    have HK := Lib.hid hr
    clear hr HR
    by_cases hlt : k < m
    · have dk : decide ((k : Int) < (m : Int)) = true := by simp; omega
      obtain ⟨x, hx⟩ : ∃ x, l[k]? = some x := ⟨_, List.getElem?_eq_getElem (by rw [← HL.out]; exact hlt)⟩
      obtain ⟨b, off, rfl, hc⟩ := ses_row H.out hx
      have HD := Lib.hid (drop_at hx)
      have c9 := hc w (Below.refl _ _) 9 _ rfl
      have c0 : w.cell? ⟨b, off + k * 20, none⟩ = some (.int .u64 (x.id : Int)) := hc w (Below.refl _ _) 0 _ rfl
      have jk : (k : Int) < (m : Int) := by omega
      have r4 : IntKind.i64.wrap ((k : Int) + 1) = ((k + 1 : Nat) : Int) := by rw [IntWalk.i64_in _ (by omega)]; omega
      obtain ⟨q, hq⟩ : ∃ q, q = byIdP n x := ⟨_, rfl⟩
      have HQ := Lib.hid hq
      have HV : Hid ((if q = true then (k : Int) else firstS (byIdP n) (l.drop (k + 1)) (k + 1)) = R) := Lib.hid (by have t := HK.out; rw [HD.out, firstS, ← hq] at t; exact t)
      clear hc hx hq HK HD
      by_cases h1 : x.state = 1
      · have HF : Hid (q = false) := Lib.hid (by rw [HQ.out, byIdP]; simp [h1])
        rw [h1] at c9
        clear h1 HQ
        go_wp2
        exact ⟨⟨k + 1, by omega, by go_num, by have t := HV.out; rw [HF.out] at t; exact t⟩, by simp [intOf]; omega⟩
      · have e1 : (x.state == 1) = false := by simpa using h1
        have e1' : (x.state != 1) = true := by simpa using h1
        by_cases h2 : x.id = n
        · have e2 : ((x.id : Int) == (n : Int)) = true := by rw [h2]; simp
          by_cases h3 : 0 < n
          · have HF : Hid (q = true) := Lib.hid (by rw [HQ.out, byIdP]; simp [h1, h2, h3])
            have e3 : decide ((0 : Int) < (n : Int)) = true := by simp; omega
            have HW : Hid ((k : Int) = R) := Lib.hid (by have t := HV.out; rw [HF.out] at t; exact t)
            clear h1 h2 HQ HV HF
            go_wp2
            go_ret
            exact ⟨by rw [← HW.out]; rfl, rfl⟩
          · have HF : Hid (q = false) := Lib.hid (by rw [HQ.out, byIdP]; simp [h3])
            have e3 : decide ((0 : Int) < (n : Int)) = false := by simp; omega
            clear h1 h2 HQ
            go_wp2
            exact ⟨⟨k + 1, by omega, by go_num, by have t := HV.out; rw [HF.out] at t; exact t⟩, by simp [intOf]; omega⟩
        · have HF : Hid (q = false) := Lib.hid (by rw [HQ.out, byIdP]; simp [h2])
          have e2 : ((x.id : Int) == (n : Int)) = false := by rw [beq_eq_false_iff_ne]; omega
          clear h1 h2 HQ
          go_wp2
          exact ⟨⟨k + 1, by omega, by go_num, by have t := HV.out; rw [HF.out] at t; exact t⟩, by simp [intOf]; omega⟩
    · obtain rfl : k = m := by omega
      have dk : decide ((k : Int) < (k : Int)) = false := by simp
      have HV : Hid ((-1 : Int) = R) := Lib.hid (by have q := HK.out; rw [List.drop_eq_nil_of_le (by rw [← HL.out]; exact Nat.le_refl _)] at q; exact q)
      go_wp2
      go_ret
      exact ⟨by rw [← HV.out]; rfl, rfl⟩

set_option maxHeartbeats 1000000 in
theorem refWaits_any (A : Option Addr) (m cap : Nat) (l : List Ses) (n : Nat) (w : World) (hm : m ≤ 1000000) (h : RowsAt w (.slice A m cap) 20 (l.map Ses.enc)) :
    Calls Try.prog 13 #[.slice A m cap, .int .u64 (n : Int)] w fun e w' => e = .returned (.int .i64 (firstS (waitsP n) l 0)) ∧ w' = w := by
  have hlen := h.size.1
  rw [List.length_map] at hlen
  have H := Lib.hid h
  have HL := Lib.hid hlen
  obtain ⟨R, hR⟩ : ∃ R, R = firstS (waitsP n) l 0 := ⟨_, rfl⟩
  have HR : Hid (firstS (waitsP n) (l.drop 0) 0 = R) := Lib.hid (by rw [hR]; rfl)
  rw [← hR]
  clear h hlen hR
  go_enter Try.func13, Try.ntmps13
  go_wp2_with fail
  go_loop [5] (fun i => ∃ k : Nat, k ≤ m ∧ i = .int .i64 (k : Int) ∧ firstS (waitsP n) (l.drop k) k = R) (fun i => m - (intOf i).toNat)
  case atStart => exact ⟨0, Nat.zero_le _, rfl, HR.out⟩
  case round =>
    obtain ⟨k, hk, rfl, hr⟩ := hrel
    have HK := Lib.hid hr
    clear hr HR
    by_cases hlt : k < m
    · have dk : decide ((k : Int) < (m : Int)) = true := by simp; omega
      obtain ⟨x, hx⟩ : ∃ x, l[k]? = some x := ⟨_, List.getElem?_eq_getElem (by rw [← HL.out]; exact hlt)⟩
      obtain ⟨b, off, rfl, hc⟩ := ses_row H.out hx
      have HD := Lib.hid (drop_at hx)
      have c9 := hc w (Below.refl _ _) 9 _ rfl
      have c1 := hc w (Below.refl _ _) 1 _ rfl
      have jk : (k : Int) < (m : Int) := by omega
      have r4 : IntKind.i64.wrap ((k : Int) + 1) = ((k + 1 : Nat) : Int) := by rw [IntWalk.i64_in _ (by omega)]; omega
      obtain ⟨q, hq⟩ : ∃ q, q = waitsP n x := ⟨_, rfl⟩
      have HQ := Lib.hid hq
      have HV : Hid ((if q = true then (k : Int) else firstS (waitsP n) (l.drop (k + 1)) (k + 1)) = R) := Lib.hid (by have t := HK.out; rw [HD.out, firstS, ← hq] at t; exact t)
      clear hc hx hq HK HD
      by_cases h1 : x.state = 1
      · rw [h1] at c9
        by_cases h2 : x.nonce = n
        · have HF : Hid (q = true) := Lib.hid (by rw [HQ.out, waitsP]; simp [h1, h2])
          have e2 : ((x.nonce : Int) == (n : Int)) = true := by rw [h2]; simp
          have HW : Hid ((k : Int) = R) := Lib.hid (by have t := HV.out; rw [HF.out] at t; exact t)
          clear h1 h2 HQ HV HF
          go_wp2
          go_ret
          exact ⟨by rw [← HW.out]; rfl, rfl⟩
        · have HF : Hid (q = false) := Lib.hid (by rw [HQ.out, waitsP]; simp [h2])
          have e2 : ((x.nonce : Int) == (n : Int)) = false := by rw [beq_eq_false_iff_ne]; omega
          clear h1 h2 HQ
          go_wp2
          exact ⟨⟨k + 1, by omega, by go_num, by have t := HV.out; rw [HF.out] at t; exact t⟩, by simp [intOf]; omega⟩
      · have e1 : (x.state == 1) = false := by simpa using h1
        have HF : Hid (q = false) := Lib.hid (by rw [HQ.out, waitsP]; simp [h1])
        clear h1 HQ
        go_wp2
        exact ⟨⟨k + 1, by omega, by go_num, by have t := HV.out; rw [HF.out] at t; exact t⟩, by simp [intOf]; omega⟩
    · obtain rfl : k = m := by omega
      have dk : decide ((k : Int) < (k : Int)) = false := by simp
      have HV : Hid ((-1 : Int) = R) := Lib.hid (by have q := HK.out; rw [List.drop_eq_nil_of_le (by rw [← HL.out]; exact Nat.le_refl _)] at q; exact q)
      go_wp2
      go_ret
      exact ⟨by rw [← HV.out]; rfl, rfl⟩

set_option maxHeartbeats 1000000 in
theorem refIn_any (A : Option Addr) (m cap : Nat) (l : List Nat) (n : Nat) (w : World) (hm : m ≤ 1000000) (h : UsAt w (.slice A m cap) l) :
    Calls Try.prog 43 #[.slice A m cap, .int .u64 (n : Int)] w fun e w' => e = .returned (.bool (l.contains n)) ∧ w' = w := by
  have hlen : m = l.length := by obtain ⟨A', cap', e, -⟩ := h; injection e
  have H := Lib.hid h
  have HL := Lib.hid hlen
  obtain ⟨R, hR⟩ : ∃ R, R = l.contains n := ⟨_, rfl⟩
  have HR : Hid ((l.drop 0).contains n = R) := Lib.hid (by rw [hR]; rfl)
  rw [← hR]
  clear h hlen hR
  go_enter Try.func43, Try.ntmps43
  go_wp2_with fail
  go_loop [5] (fun i => ∃ k : Nat, k ≤ m ∧ i = .int .i64 (k : Int) ∧ (l.drop k).contains n = R) (fun i => m - (intOf i).toNat)
  case atStart => exact ⟨0, Nat.zero_le _, rfl, HR.out⟩
  case round =>
    obtain ⟨k, hk, rfl, hr⟩ := hrel
    have HK := Lib.hid hr
    clear hr HR
    by_cases hlt : k < m
    · have dk : decide ((k : Int) < (m : Int)) = true := by simp; omega
      obtain ⟨x, hx⟩ : ∃ x, l[k]? = some x := ⟨_, List.getElem?_eq_getElem (by rw [← HL.out]; exact hlt)⟩
      have hne : l ≠ [] := by rintro rfl; simp at hx
      obtain ⟨A', cap', e, hcap, hcell⟩ := H.out
      injection e with eA em ec
      subst eA
      obtain ⟨ad, rfl, hcs⟩ := hcell hne
      have c0 := hcs k x hx
      have HD := Lib.hid (drop_at hx)
      have jk : (k : Int) < (m : Int) := by omega
      have r4 : IntKind.i64.wrap ((k : Int) + 1) = ((k + 1 : Nat) : Int) := by rw [IntWalk.i64_in _ (by omega)]; omega
      have HV : Hid ((x == n || (l.drop (k + 1)).contains n) = R) := Lib.hid (by have t := HK.out; rw [HD.out, List.contains_cons, Bool.beq_comm] at t; exact t)
      clear hcs hcell hx hne HK HD em ec hcap
      by_cases h2 : x = n
      · have e2 : ((x : Int) == (n : Int)) = true := by rw [h2]; simp
        have HW : Hid (true = R) := Lib.hid (by have t := HV.out; rw [h2] at t; simpa using t)
        clear h2 HV
        go_wp2
        go_ret
        exact ⟨by rw [← HW.out]; rfl, rfl⟩
      · have e2 : ((x : Int) == (n : Int)) = false := by rw [beq_eq_false_iff_ne]; omega
        have HW : Hid ((l.drop (k + 1)).contains n = R) := Lib.hid (by have t := HV.out; rw [show (x == n) = false by simpa using h2, Bool.false_or] at t; exact t)
        clear h2 HV
        go_wp2
        exact ⟨⟨k + 1, by omega, by go_num, HW.out⟩, by simp [intOf]; omega⟩
    · obtain rfl : k = m := by omega
      have dk : decide ((k : Int) < (k : Int)) = false := by simp
      have HV : Hid (false = R) := Lib.hid (by have q := HK.out; rw [List.drop_eq_nil_of_le (by rw [← HL.out]; exact Nat.le_refl _)] at q; exact q)
      go_wp2
      go_ret
      exact ⟨by rw [← HV.out]; rfl, rfl⟩
end Go.Proofs.Ytjohlnpalcmhbaa
