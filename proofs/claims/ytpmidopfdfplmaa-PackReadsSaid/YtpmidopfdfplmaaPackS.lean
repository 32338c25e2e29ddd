/- What a reader tells, as functions of the bytes, the place and the error; both readers, the program's and the document's, answer by them. -/
import Derived.Test.YtpmidopfdfplmaaPackR
import Derived.Test.YtpmidopfdfplmaaPackN
namespace Go.Proofs.Ytpmidopfdfplmaa
open Go.RowKit

/-- The place, and the error. -/
structure St where
  p : Nat
  e : Int

def rawT (l : List UInt8) (s : St) (n : Int) : List UInt8 × St :=
  if s.e ≠ 0 then ([], s) else if n < 0 then ([], ⟨s.p, 2⟩) else if (l.length : Int) - s.p < n then ([], ⟨s.p, 10⟩) else ((l.drop s.p).take n.toNat, ⟨s.p + n.toNat, 0⟩)
def numT (l : List UInt8) (s : St) (n : Int) : Nat × St :=
  if s.e ≠ 0 then (0, s) else if n < 1 ∨ 8 < n then (0, ⟨s.p, 2⟩) else (ofBe (rawT l s n).1, (rawT l s n).2)
def textT (l : List UInt8) (s : St) (most : Int) : List UInt8 × St :=
  if (numT l s 2).2.e ≠ 0 then ([], (numT l s 2).2) else if most < ((numT l s 2).1 : Int) then ([], ⟨(numT l s 2).2.p, 3⟩) else rawT l (numT l s 2).2 (numT l s 2).1
def leftT (l : List UInt8) (s : St) : Int := if s.e ≠ 0 then 0 else (l.length : Int) - s.p
def endT (l : List UInt8) (s : St) : Int := if s.e ≠ 0 then s.e else if s.p < l.length then 12 else 0

/-- What is left. -/
def restT (l : List UInt8) (s : St) : ByteArray := if s.e = 0 then str (l.drop s.p) else ByteArray.empty

theorem rawT_le {l : List UInt8} {s : St} (n : Int) (h : s.p ≤ l.length) : (rawT l s n).2.p ≤ l.length := by
  unfold rawT
  split
  · exact h
  · split
    · exact h
    · split
      · exact h
      · show s.p + n.toNat ≤ l.length
        omega
theorem numT_le {l : List UInt8} {s : St} (n : Int) (h : s.p ≤ l.length) : (numT l s n).2.p ≤ l.length := by
  unfold numT
  split
  · exact h
  · split
    · exact h
    · exact rawT_le n h
theorem textT_le {l : List UInt8} {s : St} (n : Int) (h : s.p ≤ l.length) : (textT l s n).2.p ≤ l.length := by
  unfold textT
  split
  · exact numT_le 2 h
  · split
    · exact numT_le 2 h
    · exact rawT_le _ (numT_le 2 h)
theorem rawT_length {l : List UInt8} {s : St} (n : Nat) : (rawT l s n).1.length ≤ n := by
  unfold rawT
  split
  · simp
  · split
    · simp
    · split
      · simp
      · simp
        omega
theorem num2_small (l : List UInt8) (s : St) : (numT l s 2).1 ≤ 65535 := by
  unfold numT
  split
  · simp
  · split
    · simp
    · have h := ofBe_lt (rawT l s 2).1
      have h2 : (rawT l s 2).1.length ≤ 2 := rawT_length (l := l) (s := s) 2
      have h3 : 256 ^ (rawT l s 2).1.length ≤ 256 ^ 2 := Nat.pow_le_pow_right (by omega) h2
      simp only
      omega

section
variable (g : Nat) (l : List UInt8) (s : St) (w : World)

theorem met_zero (k : Int) : met 0 k = k := rfl
theorem str_nil : str [] = ByteArray.empty := rfl

theorem pk_raw (n : Int) (hp : s.p ≤ l.length) (h : Rd w g (restT l s) s.e) :
    Calls Try.prog 18 #[.pointer (some ⟨g, 0, none⟩), .int .i64 n] w fun e w' => e = .returned (.string (str (rawT l s n).1)) ∧ RdTo w g (restT l (rawT l s n).2) (rawT l s n).2.e w' := by
  obtain ⟨p, e⟩ := s
  by_cases he : e = 0
  · subst he
    have hr : restT l ⟨p, 0⟩ = str (l.drop p) := rfl
    rw [hr] at h
    have hsz : (str (l.drop p)).size = l.length - p := by rw [str_size, List.length_drop]
    by_cases h1 : n < 0
    · have e1 : rawT l ⟨p, 0⟩ n = ([], ⟨p, 2⟩) := by simp [rawT, h1]
      rw [e1]
      exact raw_neg g _ 0 n w h (fun h => absurd rfl h) h1
    · by_cases h2 : (l.length : Int) - p < n
      · have e1 : rawT l ⟨p, 0⟩ n = ([], ⟨p, 10⟩) := by simp [rawT, h1, h2]
        rw [e1]
        exact raw_short g _ 0 n w h (fun h => absurd rfl h) (by rw [hsz]; simp only at hp; omega)
      · have e1 : rawT l ⟨p, 0⟩ n = ((l.drop p).take n.toNat, ⟨p + n.toNat, 0⟩) := by simp [rawT, h1, h2]
        rw [e1]
        obtain ⟨m, rfl⟩ := Int.eq_ofNat_of_zero_le (show 0 ≤ n by omega)
        simp only [Int.toNat_natCast]
        simp only at hp
        have c := raw_some g _ 0 m w h (by rw [hsz]; omega)
        have q1 : (str (l.drop p)).extract 0 m = str ((l.drop p).take m) := by apply ByteArray.ext; simp [str]
        have q2 : (str (l.drop p)).extract m (str (l.drop p)).size = restT l ⟨p + m, 0⟩ := by
          rw [str_size]
          show _ = str (l.drop (p + m))
          apply ByteArray.ext
          simp [str]
          exact List.take_of_length_le (by simp; omega)
        rw [q1, q2] at c
        exact c
  · have hr : restT l ⟨p, e⟩ = ByteArray.empty := by simp [restT, he]
    have e1 : rawT l ⟨p, e⟩ n = ([], ⟨p, e⟩) := by simp [rawT, he]
    rw [e1, hr]
    rw [hr] at h
    exact met_raw g e n w h he

theorem pk_num (n : Int) (hp : s.p ≤ l.length) (h : Rd w g (restT l s) s.e) :
    Calls Try.prog 14 #[.pointer (some ⟨g, 0, none⟩), .int .i64 n] w fun e w' => e = .returned (.int .u64 (numT l s n).1) ∧ RdTo w g (restT l (numT l s n).2) (numT l s n).2.e w' := by
  by_cases he : s.e = 0
  · by_cases hn : n < 1 ∨ 8 < n
    · have e1 : numT l s n = (0, ⟨s.p, 2⟩) := by simp [numT, he, hn]
      rw [e1]
      rw [he] at h
      exact read_num_not g _ 0 n w h (fun h => absurd rfl h) hn
    · have e1 : numT l s n = (ofBe (rawT l s n).1, (rawT l s n).2) := by simp [numT, he, hn]
      rw [e1]
      obtain ⟨m, rfl⟩ := Int.eq_ofNat_of_zero_le (show 0 ≤ n by omega)
      have hl := rawT_length (l := l) (s := s) m
      have c := read_num_core g _ _ _ m w (by omega) (by omega) (by rw [str_size]; omega) (Lib.hid (pk_raw g l s w m hp h))
      rw [str_list] at c
      exact c
  · have hr : restT l s = ByteArray.empty := by simp [restT, he]
    have e1 : numT l s n = (0, s) := by simp [numT, he]
    rw [e1, hr]
    rw [hr] at h
    exact met_num g s.e n w h he

theorem pk_text (n : Int) (hp : s.p ≤ l.length) (h : Rd w g (restT l s) s.e) :
    Calls Try.prog 16 #[.pointer (some ⟨g, 0, none⟩), .int .i64 n] w fun e w' => e = .returned (.string (str (textT l s n).1)) ∧ RdTo w g (restT l (textT l s n).2) (textT l s n).2.e w' := by
  have c := pk_num g l s w 2 hp h
  have hk := num2_small l s
  have hle := numT_le (l := l) (s := s) 2 hp
  unfold textT
  generalize numT l s 2 = q at *
  obtain ⟨k, s1⟩ := q
  simp only at *
  by_cases he : s1.e = 0
  · rw [if_neg (fun h => h he)]
    by_cases hm : n < k
    · rw [if_pos hm]
      have d := read_text_big g s1.e w k n (restT l s1) (fun h => absurd he h) hk hm (Lib.hid c)
      rw [he] at d
      exact d
    · rw [if_neg hm]
      exact read_text_ok g s1.e _ w k n (restT l s1) _ _ hk (by omega) (Lib.hid c) (Lib.hid fun w1 h1 => pk_raw g l s1 w1 k hle h1)
  · rw [if_pos he]
    have hr : restT l s1 = ByteArray.empty := by simp [restT, he]
    rw [hr] at c ⊢
    by_cases hm : n < k
    · have d := read_text_big g s1.e w k n ByteArray.empty (fun _ => rfl) hk hm (Lib.hid c)
      rw [met_of he] at d
      exact d
    · exact read_text_ok g s1.e _ w k n ByteArray.empty _ _ hk (by omega) (Lib.hid c) (Lib.hid fun w1 h1 => met_raw g s1.e k w1 h1 he)

theorem pk_left (hp : s.p ≤ l.length) (h : Rd w g (restT l s) s.e) :
    Calls Try.prog 20 #[.pointer (some ⟨g, 0, none⟩)] w fun e w' => e = .returned (.int .i64 (leftT l s)) ∧ w = w' := by
  have c := left_any g _ s.e w h
  have e1 : ((restT l s).size : Int) = leftT l s := by
    by_cases he : s.e = 0
    · simp [restT, leftT, he, str_size]
      omega
    · simp [restT, leftT, he]
  rw [e1] at c
  exact c

theorem pk_end (hp : s.p ≤ l.length) (h : Rd w g (restT l s) s.e) :
    Calls Try.prog 22 #[.pointer (some ⟨g, 0, none⟩)] w fun e w' => e = .returned (.int .i64 (endT l s)) ∧ w = w' := by
  have c := end_any g _ s.e w h
  have e1 : ended (restT l s) s.e = endT l s := by
    by_cases he : s.e = 0
    · have : (0 < l.length - s.p) ↔ s.p < l.length := by omega
      simp [ended, restT, endT, he, str_size, this]
    · simp [ended, endT, he]
  rw [e1] at c
  exact c
end

section
variable (g : Nat) (A : Option Addr) (cap : Nat) (l : List UInt8) (s : St) (w : World)

theorem rf_raw (n : Int) (hp : s.p ≤ l.length) (hl : l.length ≤ 3000) (hb : BytesAt w (.slice A l.length cap) l) (h : Rf w g (.slice A l.length cap) s.p s.e) :
    Calls Try.prog 19 #[.pointer (some ⟨g, 0, none⟩), .int .i64 n] w fun e w' => e = .returned (.string (str (rawT l s n).1)) ∧ RfTo w g (.slice A l.length cap) (rawT l s n).2.p (rawT l s n).2.e w' := by
  obtain ⟨p, e⟩ := s
  simp only at hp h
  by_cases he : e = 0
  · subst he
    by_cases h1 : n < 0
    · have e1 : rawT l ⟨p, 0⟩ n = ([], ⟨p, 2⟩) := by simp [rawT, h1]
      rw [e1]
      exact ref_raw_neg g _ p n w h h1
    · by_cases h2 : (l.length : Int) - p < n
      · have e1 : rawT l ⟨p, 0⟩ n = ([], ⟨p, 10⟩) := by simp [rawT, h1, h2]
        rw [e1]
        exact ref_raw_short g A l.length cap p n w h hp hl h2
      · have e1 : rawT l ⟨p, 0⟩ n = ((l.drop p).take n.toNat, ⟨p + n.toNat, 0⟩) := by simp [rawT, h1, h2]
        rw [e1]
        obtain ⟨m, rfl⟩ := Int.eq_ofNat_of_zero_le (show 0 ≤ n by omega)
        exact ref_raw_some g A l cap p m w h hb (by omega) hl
  · have e1 : rawT l ⟨p, e⟩ n = ([], ⟨p, e⟩) := by simp [rawT, he]
    rw [e1]
    refine (ref_raw_met g _ p e n w h he).mono ?_
    rintro _ _ ⟨rfl, rfl⟩
    exact ⟨rfl, h, World.grownBy.refl _ _⟩

theorem rf_num (n : Int) (hp : s.p ≤ l.length) (hl : l.length ≤ 3000) (hb : BytesAt w (.slice A l.length cap) l) (h : Rf w g (.slice A l.length cap) s.p s.e) :
    Calls Try.prog 15 #[.pointer (some ⟨g, 0, none⟩), .int .i64 n] w fun e w' => e = .returned (.int .u64 (numT l s n).1) ∧ RfTo w g (.slice A l.length cap) (numT l s n).2.p (numT l s n).2.e w' := by
  by_cases he : s.e = 0
  · by_cases hn : n < 1 ∨ 8 < n
    · have e1 : numT l s n = (0, ⟨s.p, 2⟩) := by simp [numT, he, hn]
      rw [e1]
      rw [he] at h
      exact ref_num_not g _ s.p n w h hn
    · have e1 : numT l s n = (ofBe (rawT l s n).1, (rawT l s n).2) := by simp [numT, he, hn]
      rw [e1]
      obtain ⟨m, rfl⟩ := Int.eq_ofNat_of_zero_le (show 0 ≤ n by omega)
      have hl' := rawT_length (l := l) (s := s) m
      have C := Lib.hid (rf_raw g A cap l s w m hp hl hb h)
      rw [he] at h
      have c := ref_num_core g _ s.p _ _ _ m w h (by omega) (by omega) (by rw [str_size]; omega) C
      rw [str_list] at c
      exact c
  · have e1 : numT l s n = (0, s) := by simp [numT, he]
    rw [e1]
    refine (ref_num_met g _ s.p s.e n w h he).mono ?_
    rintro _ _ ⟨rfl, rfl⟩
    exact ⟨rfl, h, World.grownBy.refl _ _⟩

theorem rf_text (n : Int) (hp : s.p ≤ l.length) (hl : l.length ≤ 3000) (hb : BytesAt w (.slice A l.length cap) l) (hg : l ≠ [] → A.map (·.block) ≠ some g) (h : Rf w g (.slice A l.length cap) s.p s.e) :
    Calls Try.prog 17 #[.pointer (some ⟨g, 0, none⟩), .int .i64 n] w fun e w' => e = .returned (.string (str (textT l s n).1)) ∧ RfTo w g (.slice A l.length cap) (textT l s n).2.p (textT l s n).2.e w' := by
  have c := rf_num g A cap l s w 2 hp hl hb h
  have hk := num2_small l s
  have hle := numT_le (l := l) (s := s) 2 hp
  have hz : (numT l s 2).2.e ≠ 0 → (numT l s 2).1 = 0 := by
    unfold numT
    split
    · intro _; rfl
    · split
      · intro _; rfl
      · simp only
        unfold rawT
        split
        · intro _; rfl
        · split
          · intro _; rfl
          · split
            · intro _; rfl
            · intro h; exact absurd rfl h
  unfold textT
  generalize numT l s 2 = q at *
  obtain ⟨k, s1⟩ := q
  simp only at *
  by_cases he : s1.e = 0
  · rw [if_neg (fun h => h he)]
    by_cases hm : n < k
    · rw [if_pos hm]
      rw [he] at c
      exact ref_text_big g _ s1.p k n w hk hm (Lib.hid c)
    · rw [if_neg hm]
      have C := Lib.hid c
      rw [he] at C
      refine ref_text_ok g _ s1.p _ k _ n _ w hk (by omega) C (Lib.hid fun w1 h1 hgr => rf_raw g A cap l s1 w1 k hle hl (hb.keep fun hne b hlt hbb => hgr.block b hlt ?_) (by rw [he]; exact h1))
      intro hbg
      apply hg hne
      cases A with
      | none => simp [Value.ownBlock] at hbb
      | some ad => simp [Value.ownBlock] at hbb; rw [Option.map_some, hbb]; exact hbg
  · rw [if_pos he]
    have := hz he
    subst this
    exact ref_text_err g _ s1.p s1.e n w he (Lib.hid c)

theorem rf_left (hp : s.p ≤ l.length) (hl : l.length ≤ 3000) (h : Rf w g (.slice A l.length cap) s.p s.e) :
    Calls Try.prog 21 #[.pointer (some ⟨g, 0, none⟩)] w fun e w' => e = .returned (.int .i64 (leftT l s)) ∧ RfTo w g (.slice A l.length cap) s.p s.e w' := by
  by_cases he : s.e = 0
  · have e1 : leftT l s = (l.length : Int) - s.p := by simp [leftT, he]
    rw [e1, he]
    rw [he] at h
    exact ref_left g A l.length cap s.p w h hp hl
  · have e1 : leftT l s = 0 := by simp [leftT, he]
    rw [e1]
    exact ref_left_met g _ s.p s.e w h he

theorem rf_end (h : Rf w g (.slice A l.length cap) s.p s.e) :
    Calls Try.prog 23 #[.pointer (some ⟨g, 0, none⟩)] w fun e w' => e = .returned (.int .i64 (endT l s)) ∧ RfTo w g (.slice A l.length cap) s.p s.e w' := by
  by_cases he : s.e = 0
  · rw [he] at h
    by_cases hp : s.p < l.length
    · have e1 : endT l s = 12 := by simp [endT, he, hp]
      rw [e1, he]
      exact ref_end_rest g A l.length cap s.p w h hp
    · have e1 : endT l s = 0 := by simp [endT, he, hp]
      rw [e1, he]
      exact ref_end_ok g A l.length cap s.p w h (by omega)
  · have e1 : endT l s = s.e := by simp [endT, he]
    rw [e1]
    exact ref_end_met g _ s.p s.e w h he
end
end Go.Proofs.Ytpmidopfdfplmaa
