/- Plain mathematics of the library's stable sort: exchanges of two parts, rotation, insertion by a binary search, symMerge's step, runs. It speaks of no program. -/
import Derived.Sort.LotA
namespace Go.Proofs.Ytlgpgdliakiomaa
open Go.Sort
variable {α : Type} [Inhabited α] {lt : α → α → Bool}

omit [Inhabited α] in
theorem le_lt (hS : SWO lt) {x y z : α} (h : lt y x = false) (k : lt y z = true) : lt x z = true := by
  cases e : lt x z with
  | true => rfl
  | false =>
    have := hS.ntrans _ _ _ h e
    rw [k] at this
    cases this
omit [Inhabited α] in
theorem lt_le (hS : SWO lt) {x y z : α} (h : lt z x = true) (k : lt y x = false) : lt z y = true := by
  cases e : lt z y with
  | true => rfl
  | false =>
    have := hS.ntrans _ _ _ e k
    rw [h] at this
    cases this
theorem so_sub {a b a' b' : Nat} {d : Array α} (h : SortedIn lt a b d) (ha : a ≤ a') (hb : b' ≤ b) : SortedIn lt a' b' d := fun i j h1 h2 h3 => h i j (by omega) h2 (by omega)
theorem so_turn {a b : Nat} {d d' : Array α} (h : SortedIn lt a b d) (he : ∀ p, a ≤ p → p < b → d'[p]! = d[p]!) : SortedIn lt a b d' := by
  intro p q hap hpq hqb
  rw [he p hap (by omega), he q (by omega) hqb]
  exact h p q hap hpq hqb
theorem so_le (hS : SWO lt) {a b : Nat} {d : Array α} (h : SortedIn lt a b d) {p q : Nat} (h1 : a ≤ p) (h2 : p ≤ q) (h3 : q < b) : lt d[q]! d[p]! = false := by
  rcases Nat.lt_or_ge p q with hl | hl
  · exact h p q h1 hl h3
  · obtain rfl : p = q := by omega
    exact hS.irrefl _

/-- The first i exchanges of two parts. -/
def swapTo (d : Array α) (a b : Nat) : Nat → Array α
  | 0 => d
  | i + 1 => swp (swapTo d a b i) (a + i) (b + i)
theorem swapTo_size (d : Array α) (a b i : Nat) : (swapTo d a b i).size = d.size := by
  induction i with
  | zero => rfl
  | succ i ih => rw [swapTo, size_swp, ih]
theorem swapTo_get (d : Array α) (a b i : Nat) (hab : a + i ≤ b) (hb : b + i ≤ d.size) (k : Nat) :
    (swapTo d a b i)[k]! = if a ≤ k ∧ k < a + i then d[b + (k - a)]! else if b ≤ k ∧ k < b + i then d[a + (k - b)]! else d[k]! := by
  induction i generalizing k with
  | zero =>
    rw [swapTo, if_neg (by omega), if_neg (by omega)]
  | succ i ih =>
    have h := ih (by omega) (by omega)
    rw [swapTo, swp_get _ (by rw [swapTo_size]; omega) (by rw [swapTo_size]; omega), h, h, h]
    split
    · rw [if_neg (by omega), if_neg (by omega), if_neg (by omega), if_pos (by omega)]
      exact congrArg (fun q => d[q]!) (by omega)
    · split
      · rw [if_neg (by omega), if_neg (by omega), if_pos (by omega)]
        exact congrArg (fun q => d[q]!) (by omega)
      · split
        · rw [if_pos (by omega)]
        · split
          · rw [if_neg (by omega), if_pos (by omega)]
          · rw [if_neg (by omega), if_neg (by omega)]
theorem swapTo_perm (d : Array α) (a b i x y : Nat) (h1 : x ≤ a) (h2 : a + i ≤ y) (h3 : x ≤ b) (h4 : b + i ≤ y) (h5 : y ≤ d.size) : PermIn x y d (swapTo d a b i) := by
  induction i with
  | zero => exact permIn_refl _ _ _
  | succ i ih => exact permIn_trans _ _ _ _ _ (ih (by omega) (by omega)) (swp_permIn _ _ _ _ _ (by omega) (by omega) (by omega) (by omega) (by rw [swapTo_size]; exact h5))

/-- What stands at k behind a rotation of [a, b) about m. -/
def rotv (d : Array α) (a m b k : Nat) : α := if a ≤ k ∧ k < a + (b - m) then d[k + (m - a)]! else if a + (b - m) ≤ k ∧ k < b then d[k - (b - m)]! else d[k]!
theorem rot_more (d : Array α) (m i j : Nat) (hi : i ≤ m) (hj : m + j ≤ d.size) (h : j < i) (k : Nat) : rotv (swapTo d (m - i) m j) (m - (i - j)) m (m + j) k = rotv d (m - i) m (m + j) k := by
  simp only [rotv, swapTo_get d (m - i) m j (by omega) hj]
  split <;> (try split) <;> (try split) <;> (try split) <;> (try split) <;> (try split) <;> first | (exfalso; omega) | exact congrArg (fun q => d[q]!) (by omega)
theorem rot_less (d : Array α) (m i j : Nat) (hi : i ≤ m) (hj : m + j ≤ d.size) (h : i < j) (k : Nat) : rotv (swapTo d (m - i) (m + j - i) i) (m - i) m (m + (j - i)) k = rotv d (m - i) m (m + j) k := by
  simp only [rotv, swapTo_get d (m - i) (m + j - i) i (by omega) (by omega)]
  split <;> (try split) <;> (try split) <;> (try split) <;> (try split) <;> (try split) <;> first | (exfalso; omega) | exact congrArg (fun q => d[q]!) (by omega)
theorem rot_same (d : Array α) (m i : Nat) (hi : i ≤ m) (hj : m + i ≤ d.size) (k : Nat) : (swapTo d (m - i) m i)[k]! = rotv d (m - i) m (m + i) k := by
  simp only [rotv, swapTo_get d (m - i) m i (by omega) hj]
  split <;> (try split) <;> (try split) <;> (try split) <;> (try split) <;> (try split) <;> first | (exfalso; omega) | exact congrArg (fun q => d[q]!) (by omega)
theorem rotv_none (d : Array α) (s m e : Nat) (h1 : s ≤ m) (h2 : m ≤ e) (h : ¬(s < m ∧ m < e)) (k : Nat) : d[k]! = rotv d s m e k := by
  rw [rotv]
  split <;> (try split) <;> first | (exfalso; omega) | exact congrArg (fun q => d[q]!) (by omega)

/-- What stands at a goes k places up. -/
def shUp (d : Array α) (a : Nat) : Nat → Array α
  | 0 => d
  | k + 1 => swp (shUp d a k) (a + k) (a + k + 1)
theorem shUp_size (d : Array α) (a k : Nat) : (shUp d a k).size = d.size := by
  induction k with
  | zero => rfl
  | succ k ih => rw [shUp, size_swp, ih]
theorem shUp_get (d : Array α) (a k : Nat) (h : a + k < d.size) (x : Nat) : (shUp d a k)[x]! = if a ≤ x ∧ x < a + k then d[x + 1]! else if x = a + k then d[a]! else d[x]! := by
  induction k generalizing x with
  | zero =>
    rw [shUp, if_neg (by omega)]
    split
    · rename_i e
      rw [e]
      rfl
    · rfl
  | succ k ih =>
    have g := ih (by omega)
    rw [shUp, swp_get _ (by rw [shUp_size]; omega) (by rw [shUp_size]; omega), g, g, g]
    split <;> (try split) <;> (try split) <;> (try split) <;> (try split) <;> first | (exfalso; omega) | exact congrArg (fun q => d[q]!) (by omega)
theorem shUp_perm (d : Array α) (a k x y : Nat) (h1 : x ≤ a) (h2 : a + k < y) (h3 : y ≤ d.size) : PermIn x y d (shUp d a k) := by
  induction k with
  | zero => exact permIn_refl _ _ _
  | succ k ih => exact permIn_trans _ _ _ _ _ (ih (by omega)) (swp_permIn _ _ _ _ _ (by omega) (by omega) (by omega) (by omega) (by rw [shUp_size]; exact h3))
/-- What stands at m goes k places down. -/
def shDn (d : Array α) (m : Nat) : Nat → Array α
  | 0 => d
  | k + 1 => swp (shDn d m k) (m - k) (m - k - 1)
theorem shDn_size (d : Array α) (m k : Nat) : (shDn d m k).size = d.size := by
  induction k with
  | zero => rfl
  | succ k ih => rw [shDn, size_swp, ih]
theorem shDn_get (d : Array α) (m k : Nat) (hk : k ≤ m) (h : m < d.size) (x : Nat) : (shDn d m k)[x]! = if m - k < x ∧ x ≤ m then d[x - 1]! else if x = m - k then d[m]! else d[x]! := by
  induction k generalizing x with
  | zero =>
    rw [shDn, if_neg (by omega)]
    split
    · rename_i e
      rw [e]
      rfl
    · rfl
  | succ k ih =>
    have g := ih (by omega)
    rw [shDn, swp_get _ (by rw [shDn_size]; omega) (by rw [shDn_size]; omega), g, g, g]
    split <;> (try split) <;> (try split) <;> (try split) <;> (try split) <;> first | (exfalso; omega) | exact congrArg (fun q => d[q]!) (by omega)
theorem shDn_perm (d : Array α) (m k x y : Nat) (h1 : x + k ≤ m) (h2 : m < y) (h3 : y ≤ d.size) : PermIn x y d (shDn d m k) := by
  induction k with
  | zero => exact permIn_refl _ _ _
  | succ k ih => exact permIn_trans _ _ _ _ _ (ih (by omega)) (swp_permIn _ _ _ _ _ (by omega) (by omega) (by omega) (by omega) (by rw [shDn_size]; exact h3))

/-- The search for the first one that is not less than what stands at a. -/
structure B1 (lt : α → α → Bool) (d : Array α) (a m b i j : Nat) : Prop where
  lo : ∀ k, m ≤ k → k < i → lt d[k]! d[a]! = true
  hi : ∀ k, j ≤ k → k < b → lt d[k]! d[a]! = false
theorem B1.start (d : Array α) (a m b : Nat) : B1 lt d a m b m b := ⟨fun _ h1 h2 => by omega, fun _ h1 h2 => by omega⟩
theorem B1.yes (hS : SWO lt) {d : Array α} {a m b i j h : Nat} (H : B1 lt d a m b i j) (hs : SortedIn lt m b d) (hb : h < b) (hl : lt d[h]! d[a]! = true) : B1 lt d a m b (h + 1) j :=
  ⟨fun k h1 h2 => le_lt hS (so_le hS hs h1 (show k ≤ h by omega) hb) hl, H.hi⟩
theorem B1.no (hS : SWO lt) {d : Array α} {a m b i j h : Nat} (H : B1 lt d a m b i j) (hs : SortedIn lt m b d) (hm : m ≤ h) (hl : lt d[h]! d[a]! = false) : B1 lt d a m b i h :=
  ⟨H.lo, fun _ h1 h2 => hS.ntrans _ _ _ (so_le hS hs hm h1 h2) hl⟩
theorem one_left (hS : SWO lt) (d : Array α) (a b i : Nat) (hi : a + 1 ≤ i) (hib : i ≤ b) (hb : b ≤ d.size) (hs : SortedIn lt (a + 1) b d) (H : B1 lt d a (a + 1) b i i) : SortedIn lt a b (shUp d a (i - 1 - a)) := by
  intro p q hap hpq hqb
  rw [shUp_get d a (i - 1 - a) (by omega), shUp_get d a (i - 1 - a) (by omega)]
  by_cases h1 : q < i - 1
  · rw [if_pos (by omega), if_pos (by omega)]
    exact hs _ _ (by omega) (by omega) (by omega)
  · by_cases h2 : q = i - 1
    · rw [if_neg (by omega), if_pos (by omega), if_pos (by omega)]
      exact hS.asymmA (H.lo (p + 1) (by omega) (by omega))
    · rw [if_neg (by omega), if_neg (by omega)]
      split
      · exact hs _ _ (by omega) (by omega) (by omega)
      · split
        · exact H.hi q (by omega) hqb
        · exact hs _ _ (by omega) (by omega) (by omega)

/-- The search for the first one that is greater than what stands at m. -/
structure B2 (lt : α → α → Bool) (d : Array α) (a m i j : Nat) : Prop where
  lo : ∀ k, a ≤ k → k < i → lt d[m]! d[k]! = false
  hi : ∀ k, j ≤ k → k < m → lt d[m]! d[k]! = true
theorem B2.start (d : Array α) (a m : Nat) : B2 lt d a m a m := ⟨fun k h1 h2 => by omega, fun k h1 h2 => by omega⟩
theorem B2.yes (hS : SWO lt) {d : Array α} {a m i j h : Nat} (H : B2 lt d a m i j) (hs : SortedIn lt a m d) (hb : h < m) (hl : lt d[m]! d[h]! = false) : B2 lt d a m (h + 1) j :=
  ⟨fun k h1 h2 => hS.ntrans _ _ _ hl (so_le hS hs h1 (show k ≤ h by omega) hb), H.hi⟩
theorem B2.no (hS : SWO lt) {d : Array α} {a m i j h : Nat} (H : B2 lt d a m i j) (hs : SortedIn lt a m d) (ha : a ≤ h) (hl : lt d[m]! d[h]! = true) : B2 lt d a m i h :=
  ⟨H.lo, fun _ h1 h2 => lt_le hS hl (so_le hS hs ha h1 h2)⟩
theorem one_right (hS : SWO lt) (d : Array α) (a m i : Nat) (hi : a ≤ i) (him : i ≤ m) (hm : m < d.size) (hs : SortedIn lt a m d) (H : B2 lt d a m i i) : SortedIn lt a (m + 1) (shDn d m (m - i)) := by
  intro p q hap hpq hqb
  rw [shDn_get d m (m - i) (by omega) hm, shDn_get d m (m - i) (by omega) hm]
  by_cases h1 : i < q
  · rw [if_pos (by omega)]
    split
    · exact hs _ _ (by omega) (by omega) (by omega)
    · split
      · exact hS.asymmA (H.hi (q - 1) (by omega) (by omega))
      · exact hs _ _ (by omega) (by omega) (by omega)
  · by_cases h2 : q = i
    · rw [if_neg (by omega), if_pos (by omega), if_neg (by omega), if_neg (by omega)]
      exact H.lo p hap (by omega)
    · rw [if_neg (by omega), if_neg (by omega), if_neg (by omega), if_neg (by omega)]
      exact hs _ _ (by omega) (by omega) (by omega)

/-- symMerge's search: of two places that lie opposite one another. -/
structure B3 (lt : α → α → Bool) (d : Array α) (p s0 r0 s r : Nat) : Prop where
  lo : ∀ c, s0 ≤ c → c < s → lt d[p - c]! d[c]! = false
  hi : ∀ c, r ≤ c → c < r0 → lt d[p - c]! d[c]! = true
theorem B3.start (d : Array α) (p s0 r0 : Nat) : B3 lt d p s0 r0 s0 r0 := ⟨fun k h1 h2 => by omega, fun k h1 h2 => by omega⟩
theorem B3.yes (hS : SWO lt) {d : Array α} {a m b p s0 r0 s r c : Nat} (H : B3 lt d p s0 r0 s r) (hA : SortedIn lt a m d) (hB : SortedIn lt m b d) (h1 : a ≤ s0) (h2 : r0 ≤ m) (h3 : p < b + s0) (h4 : m + r0 ≤ p + 1) (hc : c < r0) (hl : lt d[p - c]! d[c]! = false) : B3 lt d p s0 r0 (c + 1) r :=
  ⟨fun k k1 k2 => hS.ntrans _ _ _ (hS.ntrans _ _ _ (so_le hS hB (show m ≤ p - c by omega) (show p - c ≤ p - k by omega) (by omega)) hl) (so_le hS hA (show a ≤ k by omega) (show k ≤ c by omega) (by omega)), H.hi⟩
theorem B3.no (hS : SWO lt) {d : Array α} {a m b p s0 r0 s r c : Nat} (H : B3 lt d p s0 r0 s r) (hA : SortedIn lt a m d) (hB : SortedIn lt m b d) (h1 : a ≤ s0) (h2 : r0 ≤ m) (h3 : p < b + s0) (h4 : m + r0 ≤ p + 1) (hs : s0 ≤ c) (hl : lt d[p - c]! d[c]! = true) : B3 lt d p s0 r0 s c :=
  ⟨H.lo, fun k k1 k2 => lt_le hS (le_lt hS (so_le hS hB (show m ≤ p - k by omega) (show p - k ≤ p - c by omega) (by omega)) hl) (so_le hS hA (show a ≤ c by omega) k1 (by omega))⟩

/-- Behind the rotation: four runs, and what stands below mid is not greater than what stands above it. -/
theorem sym_parts (hS : SWO lt) {a m b mid s e : Nat} {d d1 : Array α} (hA : SortedIn lt a m d) (hB : SortedIn lt m b d) (h1 : a ≤ s) (h2 : s ≤ m) (h3 : m ≤ e) (h4 : e ≤ b) (hmid : s + e = mid + m)
    (F1 : a < s → e < b → lt d[e]! d[s - 1]! = false) (F2 : s < m → m < e → lt d[e - 1]! d[s]! = true) (hd : ∀ k, d1[k]! = rotv d s m e k) :
    SortedIn lt a s d1 ∧ SortedIn lt s mid d1 ∧ SortedIn lt mid e d1 ∧ SortedIn lt e b d1 ∧ ∀ x y, a ≤ x → x < mid → mid ≤ y → y < b → lt d1[y]! d1[x]! = false := by
  have g1 : ∀ k, k < s → d1[k]! = d[k]! := fun k hk => by rw [hd, rotv, if_neg (by omega), if_neg (by omega)]
  have g2 : ∀ k, s ≤ k → k < mid → d1[k]! = d[k + (m - s)]! := fun k h h' => by rw [hd, rotv, if_pos (by omega)]
  have g3 : ∀ k, mid ≤ k → k < e → d1[k]! = d[k - (e - m)]! := fun k h h' => by rw [hd, rotv, if_neg (by omega), if_pos (by omega)]
  have g4 : ∀ k, e ≤ k → d1[k]! = d[k]! := fun k h => by rw [hd, rotv, if_neg (by omega), if_neg (by omega)]
  refine ⟨fun p q i1 i2 i3 => ?_, fun p q i1 i2 i3 => ?_, fun p q i1 i2 i3 => ?_, fun p q i1 i2 i3 => ?_, fun x y i1 i2 i3 i4 => ?_⟩
  · rw [g1 p (by omega), g1 q i3]
    exact hA _ _ i1 i2 (by omega)
  · rw [g2 p i1 (by omega), g2 q (by omega) i3]
    exact hB _ _ (by omega) (by omega) (by omega)
  · rw [g3 p i1 (by omega), g3 q (by omega) i3]
    exact hA _ _ (by omega) (by omega) (by omega)
  · rw [g4 p i1, g4 q (by omega)]
    exact hB _ _ (by omega) (by omega) (by omega)
  · by_cases hx : x < s
    · rw [g1 x hx]
      by_cases hy : y < e
      · rw [g3 y i3 hy]
        exact hA _ _ i1 (by omega) (by omega)
      · rw [g4 y (by omega)]
        exact hS.ntrans _ _ _ (hS.ntrans _ _ _ (so_le hS hB h3 (show e ≤ y by omega) i4) (F1 (by omega) (by omega))) (so_le hS hA i1 (show x ≤ s - 1 by omega) (by omega))
    · rw [g2 x (by omega) i2]
      by_cases hy : y < e
      · rw [g3 y i3 hy]
        refine hS.ntrans _ _ _ (hS.ntrans _ _ _ (so_le hS hA h1 (show s ≤ y - (e - m) by omega) (by omega)) (hS.asymmA (F2 (by omega) (by omega)))) (so_le hS hB (show m ≤ x + (m - s) by omega) (show x + (m - s) ≤ e - 1 by omega) (by omega))
      · rw [g4 y (by omega)]
        exact so_le hS hB (by omega) (by omega) i4
theorem sym_join {a b mid : Nat} {d1 d2 d3 : Array α} (h1 : a ≤ mid) (h2 : mid ≤ b) (hb : b ≤ d1.size) (P1 : PermIn a mid d1 d2) (S1 : SortedIn lt a mid d2) (P2 : PermIn mid b d2 d3) (S2 : SortedIn lt mid b d3)
    (hx : ∀ x y, a ≤ x → x < mid → mid ≤ y → y < b → lt d1[y]! d1[x]! = false) : PermIn a b d1 d3 ∧ SortedIn lt a b d3 := by
  have s2 : d2.size = d1.size := P1.1
  refine ⟨permIn_trans _ _ _ _ _ (permIn_mono _ _ _ _ _ _ (Nat.le_refl _) h2 hb P1) (permIn_mono _ _ _ _ _ _ h1 (Nat.le_refl _) (by omega) P2), ?_⟩
  have q1 := permIn_all d1 d2 a mid (fun u => ∀ y, mid ≤ y → y < b → lt d1[y]! u = false) (by omega) P1 (fun x i1 i2 y i3 i4 => hx x y i1 i2 i3 i4)
  have q2 := permIn_all d2 d3 mid b (fun u => ∀ x, a ≤ x → x < mid → lt u d2[x]! = false) (by omega) P2 (fun y i3 i4 x i1 i2 => by
    rw [P1.2.1 y (.inr i3)]
    exact q1 x i1 i2 y i3 i4)
  intro p q i1 i2 i3
  by_cases hp : p < mid
  · by_cases hq : q < mid
    · rw [P2.2.1 p (.inl hp), P2.2.1 q (.inl hq)]
      exact S1 p q i1 i2 hq
    · have := q2 q (by omega) i3 p i1 hp
      rw [P2.2.1 p (.inl hp)]
      exact this
  · exact S2 p q (by omega) i2 i3

/-- Runs of B places each, the first t of them. -/
def Pre (lt : α → α → Bool) (d : Array α) (B t : Nat) : Prop := ∀ k, k < t → SortedIn lt (k * B) (k * B + B) d
/-- Runs of B places each from lo on, up to n. -/
def Runs (lt : α → α → Bool) (d : Array α) (B lo n : Nat) : Prop := ∀ k, SortedIn lt (lo + k * B) (min (lo + k * B + B) n) d
theorem Pre.keep {d d' : Array α} {B t a b : Nat} (h : Pre lt d B t) (hp : PermIn a b d d') (ha : t * B ≤ a) : Pre lt d' B t := fun k hk => by
  refine so_turn (h k hk) fun p h1 h2 => hp.2.1 p (.inl ?_)
  have := Nat.mul_le_mul_right B (show k + 1 ≤ t by omega)
  rw [Nat.succ_mul] at this
  omega
theorem Pre.snoc {d : Array α} {B t : Nat} (h : Pre lt d B t) (hs : SortedIn lt (t * B) (t * B + B) d) : Pre lt d B (t + 1) := fun k hk => by
  rcases Nat.lt_or_ge k t with hl | hl
  · exact h k hl
  · obtain rfl : k = t := by omega
    exact hs
theorem Pre.runs {d : Array α} {B t n : Nat} (h : Pre lt d B t) (hs : SortedIn lt (t * B) n d) (hn : n < t * B + B) : Runs lt d B 0 n := fun k => by
  rcases Nat.lt_or_ge k t with hl | hl
  · exact so_sub (h k hl) (by omega) (by omega)
  · rcases Nat.lt_or_ge t k with hl2 | hl2
    · intro p q h1 h2 h3
      have := Nat.mul_le_mul_right B (show t + 1 ≤ k by omega)
      rw [Nat.succ_mul] at this
      omega
    · obtain rfl : k = t := by omega
      exact so_sub hs (by omega) (by omega)
theorem Runs.keep {d d' : Array α} {B lo n a b : Nat} (h : Runs lt d B lo n) (hp : PermIn a b d d') (hb : b ≤ lo) : Runs lt d' B lo n := fun k => so_turn (h k) fun p h1 h2 => hp.2.1 p (.inr (by omega))
theorem Runs.next {d : Array α} {B lo n : Nat} (h : Runs lt d B lo n) : Runs lt d B (lo + B) n := fun k => by
  have := h (k + 1)
  rw [Nat.succ_mul] at this
  exact so_sub this (by omega) (by omega)
theorem Runs.first {d : Array α} {B lo n : Nat} (h : Runs lt d B lo n) : SortedIn lt lo (min (lo + B) n) d := by
  have := h 0
  rw [Nat.zero_mul] at this
  exact this
end Go.Proofs.Ytlgpgdliakiomaa
