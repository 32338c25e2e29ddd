/- The library's stable sort, walked: symMerge where the second run begins above the middle. -/
import Derived.Test.YtlgpgdliakiomaaSoA
import Derived.Deep.DeepCutAuto
namespace Go.Proofs.Ytlgpgdliakiomaa
open Go.Shelf Go.RowKit Go.Lib Go.Sort Go.Proofs

set_option maxRecDepth 1000000 in
set_option maxHeartbeats 2000000 in
theorem sym_high (g : Nat) (cb : Array Value) (cf : Nat → Nat → Int) (hS : SWO (ltOf cf)) (blk off cap : Nat) (d0 : Array Nat) (w0 : World)
    (eg : ∀ args w, (callFunc g args).run Try.prog w = .ok (.enter g args) w) (hcmp : CmpLays1 Try.prog g cb encU cf blk off d0.size w0) (R : Row1 encU w0 blk off d0) (z : Nat)
    (IH : Aside (∀ (a m b : Nat) (d : Array Nat) (w : World) (_ : b - a ≤ z) (_ : d0.size = d.size) (_ : SW encU w0 blk off d w) (_ : d.size < 4611686018427387904) (_ : a < m) (_ : m < b) (_ : b ≤ d.size) (_ : SortedIn (ltOf cf) a m d) (_ : SortedIn (ltOf cf) m b d),
    Calls Try.prog 28 #[.slice (some ⟨blk, off, none⟩) d.size cap, .int .i64 (a : Int), .int .i64 (m : Int), .int .i64 (b : Int), .func (.func g) #[] cb] w fun e w' => e = .returned (.tuple #[]) ∧ ∃ d', SW encU w0 blk off d' w' ∧ PermIn a b d d' ∧ SortedIn (ltOf cf) a b d'))
    (a m b : Nat) (d : Array Nat) (w : World) (hz : b - a ≤ z + 1) (hs : d0.size = d.size) (S : SW encU w0 blk off d w) (hsz : d.size < 4611686018427387904) (h1 : a < m) (h2 : m < b) (h3 : b ≤ d.size) (hA : SortedIn (ltOf cf) a m d) (hB : SortedIn (ltOf cf) m b d) (hm1 : ¬ m = a + 1) (hb1 : ¬ b = m + 1) (mid : Nat) (hmid : mid = (a + b) / 2) (hway : mid < m) :
    Calls Try.prog 28 #[.slice (some ⟨blk, off, none⟩) d.size cap, .int .i64 (a : Int), .int .i64 (m : Int), .int .i64 (b : Int), .func (.func g) #[] cb] w fun e w' => e = .returned (.tuple #[]) ∧ ∃ d', SW encU w0 blk off d' w' ∧ PermIn a b d d' ∧ SortedIn (ltOf cf) a b d' := by
  have mixed : Try.prog.follows .mixedOrders = true := by kernel_rfl
  have HC : Aside _ := hcmp
  have S0 : Aside (SW encU w0 blk off d w) := S
  have HA : Aside (SortedIn (ltOf cf) a m d) := hA
  have HB : Aside (SortedIn (ltOf cf) m b d) := hB
  have r0 : IntKind.i64.wrap ((m : Int) - (a : Int)) = (m : Int) - (a : Int) := by rw [IntKind.wrap_i64]; omega
  have r0' : IntKind.i64.wrap ((b : Int) - (m : Int)) = (b : Int) - (m : Int) := by rw [IntKind.wrap_i64]; omega
  clear S hA hB hcmp
  have hd1 : (((m : Int) - (a : Int)) == (1 : Int)) = false := by simp; omega
  have hd2 : (((b : Int) - (m : Int)) == (1 : Int)) = false := by simp; omega
  obtain ⟨n, hn⟩ : ∃ q, q = mid + m := ⟨_, rfl⟩
  obtain ⟨p, hp⟩ : ∃ q, q + 1 = n := ⟨n - 1, by omega⟩
  have rr1 : IntKind.i64.wrap ((a : Int) + (b : Int)) = (a : Int) + (b : Int) := by rw [IntKind.wrap_i64]; omega
  have rr2 : IntKind.u64.wrap ((a : Int) + (b : Int)) = (a : Int) + (b : Int) := by rw [IntWalk.u64_in _ (by omega)]
  have rr3 : ((a : Int) + (b : Int)) / 2 = (mid : Int) := by omega
  have rr4 : IntKind.i64.wrap (mid : Int) = (mid : Int) := by rw [IntKind.wrap_i64]; omega
  have rr5 : IntKind.i64.wrap ((mid : Int) + (m : Int)) = (n : Int) := by rw [IntKind.wrap_i64]; omega
  have rr6 : IntKind.i64.wrap ((n : Int) - 1) = (p : Int) := by rw [IntKind.wrap_i64]; omega
  have hmb : mid < b := by omega
  have ham : a < mid := by omega
  have hg : (mid : Int) < (m : Int) := by omega
  obtain ⟨s0, hs0⟩ : ∃ q, q + b = n := ⟨n - b, by omega⟩
  obtain ⟨q0, hq0⟩ : ∃ q, q = mid := ⟨_, rfl⟩
  have rr7 : IntKind.i64.wrap ((n : Int) - (b : Int)) = (s0 : Int) := by rw [IntKind.wrap_i64]; omega
  have NN : Hid (a ≤ s0 ∧ q0 ≤ m ∧ q0 ≤ mid ∧ p < b + s0 ∧ m + q0 ≤ p + 1 ∧ s0 ≤ q0 ∧ n = p + 1 ∧ n = mid + m ∧ mid < b ∧ a < mid ∧ (s0 = a ∨ s0 + b = n) ∧ (q0 = m ∨ q0 = mid) ∧ p < d.size + d.size) := by show _ ∧ _; omega
  have eq0 : (.int .i64 (mid : Int) : Value) = .int .i64 (q0 : Int) := by rw [hq0]
  have es0 : True := trivial
  have EQ : Aside _ := eq0
  have ES : Aside _ := es0
  clear eq0 es0 hs0 hq0 hn hp hmid hmb ham
  go_enter Try.func28, Try.ntmps28
  go_wp2_with fail
  go_loopg [20, 21] (q0 - s0) (fun kx s20 s21 wr => ∃ (s r : Nat), s20 = .int .i64 (s : Int) ∧ s21 = .int .i64 (r : Int) ∧ s0 ≤ s ∧ s ≤ r ∧ r ≤ q0 ∧ r - s ≤ kx ∧ Aside (SW encU w0 blk off d wr) ∧ Aside (B3 (ltOf cf) d p s0 q0 s r))
  case atStart => exact ⟨s0, q0, rfl, EQ.out, Nat.le_refl _, NN.out.2.2.2.2.2.1, Nat.le_refl _, Nat.le_refl _, S0, B3.start _ _ _ _⟩
  case round =>
    clear S0 EQ ES
    obtain ⟨s, r, rfl, rfl, hs1, hsr, hr1, hkx, S1, G⟩ := hrel
    by_cases hlt : s < r
    · have hltz : (s : Int) < (r : Int) := by omega
      obtain ⟨c, hc⟩ : ∃ c, c = (s + r) / 2 := ⟨_, rfl⟩
      have nn := NN.out
      have hsc : s ≤ c := by omega
      have hcr : c < r := by omega
      have hcp : c ≤ p := by omega
      have hcd : c < d.size := by omega
      have hpd : p < d.size + c := by omega
      have rs1 : IntKind.i64.wrap ((s : Int) + (r : Int)) = (s : Int) + (r : Int) := by rw [IntKind.wrap_i64]; omega
      have rs2 : IntKind.u64.wrap ((s : Int) + (r : Int)) = (s : Int) + (r : Int) := by rw [IntWalk.u64_in _ (by omega)]
      have rs3 : ((s : Int) + (r : Int)) / 2 = (c : Int) := by omega
      have rs4 : IntKind.i64.wrap (c : Int) = (c : Int) := by rw [IntKind.wrap_i64]; omega
      clear hc nn
      cases hlv : (ltOf cf) d[p - c]! d[c]! with
      | false =>
        obtain ⟨iN8, hiN8⟩ : ∃ q, q = p - c := ⟨_, rfl⟩
        obtain ⟨jN8, hjN8⟩ : ∃ q, q = c := ⟨_, rfl⟩
        have ea8 : ((p : Int) - (c : Int)).toNat = iN8 := by omega
        have pa8 : (0 : Int) ≤ (p : Int) - (c : Int) := by omega
        have ba8 : (p : Int) - (c : Int) < (d.size : Int) := by omega
        have ra8 : IntKind.i64.wrap ((p : Int) - (c : Int)) = (p : Int) - (c : Int) := by rw [IntKind.wrap_i64]; omega
        have ec8 : ((c : Int)).toNat = jN8 := by omega
        have pc8 : (0 : Int) ≤ (c : Int) := by omega
        have bc8 : (c : Int) < (d.size : Int) := by omega
        have rc8 : IntKind.i64.wrap ((c : Int)) = (c : Int) := by rw [IntKind.wrap_i64]; omega
        obtain ⟨x8, hx8⟩ : ∃ x, x = (d)[p - c]! := ⟨_, rfl⟩
        obtain ⟨y8, hy8⟩ : ∃ x, x = (d)[c]! := ⟨_, rfl⟩
        have l8a := S1.out.cl R (by omega) (p - c) (by omega)
        have l8b := S1.out.cl R (by omega) (c) (by omega)
        rw [← hx8, ← hiN8] at l8a
        rw [← hy8, ← hjN8] at l8b
        have hc8 := S1.out.cmp HC.out (by omega) x8 y8
        have hv8 : ¬ cf x8 y8 < 0 := by rw [hx8, hy8]; exact of_decide_eq_false hlv
        have hd8 : decide (cf x8 y8 < 0) = false := decide_eq_false hv8
        clear hx8 hy8 hiN8 hjN8
        simp only [encU] at *
        go_wp2_with fail
        go_quiet_grown (first | (go_at_fn g; refine Calls.grown_of (hc8 _ _)))
        have S2 : Aside (SW encU w0 blk off (d) (grow (wr.drewN nq) osq)) := S1.out.grown nq osq
        clear l8a l8b hc8 S1
        generalize grow (wr.drewN nq) osq = w2 at S2 ⊢
        clear nq osq
        clear ea8 ec8
        go_wp2
        go_roundg (r - (c + 1))
        case measure => omega
        case rel => exact ⟨c + 1, r, by go_num, rfl, by omega, by omega, hr1, Nat.le_refl _, S2, by have nn := NN.out; exact G.out.yes hS HA.out HB.out nn.1 nn.2.1 nn.2.2.2.1 nn.2.2.2.2.1 (by omega) hlv⟩
      | true =>
        obtain ⟨iN9, hiN9⟩ : ∃ q, q = p - c := ⟨_, rfl⟩
        obtain ⟨jN9, hjN9⟩ : ∃ q, q = c := ⟨_, rfl⟩
        have ea9 : ((p : Int) - (c : Int)).toNat = iN9 := by omega
        have pa9 : (0 : Int) ≤ (p : Int) - (c : Int) := by omega
        have ba9 : (p : Int) - (c : Int) < (d.size : Int) := by omega
        have ra9 : IntKind.i64.wrap ((p : Int) - (c : Int)) = (p : Int) - (c : Int) := by rw [IntKind.wrap_i64]; omega
        have ec9 : ((c : Int)).toNat = jN9 := by omega
        have pc9 : (0 : Int) ≤ (c : Int) := by omega
        have bc9 : (c : Int) < (d.size : Int) := by omega
        have rc9 : IntKind.i64.wrap ((c : Int)) = (c : Int) := by rw [IntKind.wrap_i64]; omega
        obtain ⟨x9, hx9⟩ : ∃ x, x = (d)[p - c]! := ⟨_, rfl⟩
        obtain ⟨y9, hy9⟩ : ∃ x, x = (d)[c]! := ⟨_, rfl⟩
        have l9a := S1.out.cl R (by omega) (p - c) (by omega)
        have l9b := S1.out.cl R (by omega) (c) (by omega)
        rw [← hx9, ← hiN9] at l9a
        rw [← hy9, ← hjN9] at l9b
        have hc9 := S1.out.cmp HC.out (by omega) x9 y9
        have hv9 : cf x9 y9 < 0 := by rw [hx9, hy9]; exact of_decide_eq_true hlv
        have hd9 : decide (cf x9 y9 < 0) = true := decide_eq_true hv9
        clear hx9 hy9 hiN9 hjN9
        simp only [encU] at *
        go_wp2_with fail
        go_quiet_grown (first | (go_at_fn g; refine Calls.grown_of (hc9 _ _)))
        have S2 : Aside (SW encU w0 blk off (d) (grow (wr.drewN nq) osq)) := S1.out.grown nq osq
        clear l9a l9b hc9 S1
        generalize grow (wr.drewN nq) osq = w2 at S2 ⊢
        clear nq osq
        clear ea9 ec9
        go_wp2
        go_roundg (c - s)
        case measure => omega
        case rel => exact ⟨s, c, rfl, rfl, hs1, hsc, by omega, Nat.le_refl _, S2, by have nn := NN.out; exact G.out.no hS HA.out HB.out nn.1 nn.2.1 nn.2.2.2.1 nn.2.2.2.2.1 (by omega) hlv⟩
    · have hnot : ¬ (s : Int) < (r : Int) := by omega
      obtain rfl : s = r := by omega
      obtain ⟨e, he⟩ : ∃ e, e + s = n := ⟨n - s, by have nn := NN.out; omega⟩
      have nn := NN.out
      have f1 : a < s → e < b → (ltOf cf) d[e]! d[s - 1]! = false := fun k1 k2 => by
        have := G.out.lo (s - 1) (by omega) (by omega)
        rw [show p - (s - 1) = e by omega] at this
        exact this
      have f2 : s < m → m < e → (ltOf cf) d[e - 1]! d[s]! = true := fun k1 k2 => by
        have := G.out.hi s (by omega) (by omega)
        rw [show p - s = e - 1 by omega] at this
        exact this
      have FF : Aside _ := And.intro f1 f2
      have has : a ≤ s := by omega
      have hsm : s ≤ m := by omega
      have hsmid : s ≤ mid := by omega
      have hme : m ≤ e := by omega
      have heb : e ≤ b := by omega
      have hmide : mid ≤ e := by omega
      have hmb : mid < b := by omega
      have ham : a < mid := by omega
      have EM : Hid (s + e = mid + m) := by show _ = _; omega
      have rs1 : IntKind.i64.wrap ((n : Int) - (s : Int)) = (e : Int) := by rw [IntKind.wrap_i64]; omega
      clear f1 f2 he nn NN G
      go_upto_region 39 with fail
      have k1 : s < m := by omega
      by_cases k2 : m < e
      · have u1 : decide ((s : Int) < (m : Int)) = true := by simp; omega
        have u2 : decide ((m : Int) < (e : Int)) = true := by simp; omega
        have C := Lib.hid (rotate_any g cb blk off cap s m e d0 d w0 _ R hs S1.out hsz k1 k2 (by omega))
        go_upto_region 41 with (go_at_call 30; refine C.out.mono ?_; rintro er w2 ⟨rfl, d1, s2, p1, g1⟩)
        have S2 : Aside (SW encU w0 blk off d1 w2) := s2
        have P1 : Aside (PermIn s e d d1) := p1
        have G1 : Aside (∀ k, d1[k]! = rotv d s m e k) := g1
        clear s2 p1 g1 C S1 k2 u2
        have hz1 : d1.size = d.size := P1.out.1
        have PARTS : Aside _ := sym_parts hS HA.out HB.out has hsm hme heb EM.out FF.out.1 FF.out.2 G1.out
        have P2 : Aside (PermIn a b d d1) := permIn_mono _ _ _ _ _ _ has heb h3 P1.out
        clear G1 P1 k1 u1
        by_cases k1 : a < s
        · by_cases k2 : s < mid
          · have u1 : decide ((a : Int) < (s : Int)) = true := by simp; omega
            have u2 : decide ((s : Int) < (mid : Int)) = true := by simp; omega
            have C := Lib.hid (IH.out a s mid d1 _ (by omega) (by omega) S2.out (by omega) k1 k2 (by omega) PARTS.out.1 PARTS.out.2.1)
            rw [hz1] at C
            go_upto_region 43 with (go_at_call 28; refine C.out.mono ?_; rintro er w3 ⟨rfl, d2, s2, p1, g1⟩)
            have S3 : Aside (SW encU w0 blk off d2 w3) := s2
            have P3 : Aside (PermIn a mid d1 d2) := p1
            have G3 : Aside (SortedIn (ltOf cf) a mid d2) := g1
            clear s2 p1 g1 C S2 k2 u2
            have hz2 : d2.size = d.size := P3.out.1.trans hz1
            have Q1 : Aside (SortedIn (ltOf cf) mid e d2) := so_turn PARTS.out.2.2.1 fun q h _ => P3.out.2.1 q (.inr h)
            have Q2 : Aside (SortedIn (ltOf cf) e b d2) := so_turn PARTS.out.2.2.2.1 fun q h _ => P3.out.2.1 q (.inr (by omega))
            clear k1 u1
            by_cases k1 : mid < e
            · by_cases k2 : e < b
              · have u1 : decide ((mid : Int) < (e : Int)) = true := by simp; omega
                have u2 : decide ((e : Int) < (b : Int)) = true := by simp; omega
                have C := Lib.hid (IH.out mid e b d2 _ (by omega) (by omega) S3.out (by omega) k1 k2 (by omega) Q1.out Q2.out)
                rw [hz2] at C
                go_wp2_with (go_at_call 28; refine C.out.mono ?_; rintro er w4 ⟨rfl, d3, s4, p4, g4⟩)
                go_end0
                have J := sym_join (by omega) (by omega) (by omega) P3.out G3.out p4 g4 PARTS.out.2.2.2.2
                exact ⟨rfl, d3, s4, permIn_trans _ _ _ _ _ P2.out J.1, J.2⟩
              · have u1 : decide ((mid : Int) < (e : Int)) = true := by simp; omega
                have u2 : decide ((e : Int) < (b : Int)) = false := by simp; omega
                have g4 : Aside (SortedIn (ltOf cf) mid b d2) := by
                  rcases (show e = mid ∨ e = b by omega) with e1 | e1
                  · have := Q2.out
                    rw [e1] at this
                    exact this
                  · have := Q1.out
                    rw [e1] at this
                    exact this
                go_wp2_with fail
                go_end0
                have J := sym_join (by omega) (by omega) (by omega) P3.out G3.out (permIn_refl _ _ _) g4.out PARTS.out.2.2.2.2
                exact ⟨rfl, d2, S3.out, permIn_trans _ _ _ _ _ P2.out J.1, J.2⟩
            · have u1 : decide ((mid : Int) < (e : Int)) = false := by simp; omega
              have g4 : Aside (SortedIn (ltOf cf) mid b d2) := by
                rcases (show e = mid ∨ e = b by omega) with e1 | e1
                · have := Q2.out
                  rw [e1] at this
                  exact this
                · have := Q1.out
                  rw [e1] at this
                  exact this
              go_wp2_with fail
              go_end0
              have J := sym_join (by omega) (by omega) (by omega) P3.out G3.out (permIn_refl _ _ _) g4.out PARTS.out.2.2.2.2
              exact ⟨rfl, d2, S3.out, permIn_trans _ _ _ _ _ P2.out J.1, J.2⟩
          · have u1 : decide ((a : Int) < (s : Int)) = true := by simp; omega
            have u2 : decide ((s : Int) < (mid : Int)) = false := by simp; omega
            obtain ⟨d2, hd2'⟩ : ∃ d2, d2 = d1 := ⟨_, rfl⟩
            have P3 : Aside (PermIn a mid d1 d2) := by rw [hd2']; exact permIn_refl _ _ _
            have G3 : Aside (SortedIn (ltOf cf) a mid d2) := by
              rw [hd2']
              rcases (show s = a ∨ s = mid by omega) with e1 | e1
              · have := PARTS.out.2.1
                rw [e1] at this
                exact this
              · have := PARTS.out.1
                rw [e1] at this
                exact this
            rw [← hd2'] at S2
            have S3 := S2
            clear hd2' S2
            go_upto_region 43 with fail
            have hz2 : d2.size = d.size := P3.out.1.trans hz1
            have Q1 : Aside (SortedIn (ltOf cf) mid e d2) := so_turn PARTS.out.2.2.1 fun q h _ => P3.out.2.1 q (.inr h)
            have Q2 : Aside (SortedIn (ltOf cf) e b d2) := so_turn PARTS.out.2.2.2.1 fun q h _ => P3.out.2.1 q (.inr (by omega))
            clear k1 u1
            by_cases k1 : mid < e
            · by_cases k2 : e < b
              · have u1 : decide ((mid : Int) < (e : Int)) = true := by simp; omega
                have u2 : decide ((e : Int) < (b : Int)) = true := by simp; omega
                have C := Lib.hid (IH.out mid e b d2 _ (by omega) (by omega) S3.out (by omega) k1 k2 (by omega) Q1.out Q2.out)
                rw [hz2] at C
                go_wp2_with (go_at_call 28; refine C.out.mono ?_; rintro er w4 ⟨rfl, d3, s4, p4, g4⟩)
                go_end0
                have J := sym_join (by omega) (by omega) (by omega) P3.out G3.out p4 g4 PARTS.out.2.2.2.2
                exact ⟨rfl, d3, s4, permIn_trans _ _ _ _ _ P2.out J.1, J.2⟩
              · have u1 : decide ((mid : Int) < (e : Int)) = true := by simp; omega
                have u2 : decide ((e : Int) < (b : Int)) = false := by simp; omega
                have g4 : Aside (SortedIn (ltOf cf) mid b d2) := by
                  rcases (show e = mid ∨ e = b by omega) with e1 | e1
                  · have := Q2.out
                    rw [e1] at this
                    exact this
                  · have := Q1.out
                    rw [e1] at this
                    exact this
                go_wp2_with fail
                go_end0
                have J := sym_join (by omega) (by omega) (by omega) P3.out G3.out (permIn_refl _ _ _) g4.out PARTS.out.2.2.2.2
                exact ⟨rfl, d2, S3.out, permIn_trans _ _ _ _ _ P2.out J.1, J.2⟩
            · have u1 : decide ((mid : Int) < (e : Int)) = false := by simp; omega
              have g4 : Aside (SortedIn (ltOf cf) mid b d2) := by
                rcases (show e = mid ∨ e = b by omega) with e1 | e1
                · have := Q2.out
                  rw [e1] at this
                  exact this
                · have := Q1.out
                  rw [e1] at this
                  exact this
              go_wp2_with fail
              go_end0
              have J := sym_join (by omega) (by omega) (by omega) P3.out G3.out (permIn_refl _ _ _) g4.out PARTS.out.2.2.2.2
              exact ⟨rfl, d2, S3.out, permIn_trans _ _ _ _ _ P2.out J.1, J.2⟩
        · have u1 : decide ((a : Int) < (s : Int)) = false := by simp; omega
          obtain ⟨d2, hd2'⟩ : ∃ d2, d2 = d1 := ⟨_, rfl⟩
          have P3 : Aside (PermIn a mid d1 d2) := by rw [hd2']; exact permIn_refl _ _ _
          have G3 : Aside (SortedIn (ltOf cf) a mid d2) := by
            rw [hd2']
            rcases (show s = a ∨ s = mid by omega) with e1 | e1
            · have := PARTS.out.2.1
              rw [e1] at this
              exact this
            · have := PARTS.out.1
              rw [e1] at this
              exact this
          rw [← hd2'] at S2
          have S3 := S2
          clear hd2' S2
          go_upto_region 43 with fail
          have hz2 : d2.size = d.size := P3.out.1.trans hz1
          have Q1 : Aside (SortedIn (ltOf cf) mid e d2) := so_turn PARTS.out.2.2.1 fun q h _ => P3.out.2.1 q (.inr h)
          have Q2 : Aside (SortedIn (ltOf cf) e b d2) := so_turn PARTS.out.2.2.2.1 fun q h _ => P3.out.2.1 q (.inr (by omega))
          clear k1 u1
          by_cases k1 : mid < e
          · by_cases k2 : e < b
            · have u1 : decide ((mid : Int) < (e : Int)) = true := by simp; omega
              have u2 : decide ((e : Int) < (b : Int)) = true := by simp; omega
              have C := Lib.hid (IH.out mid e b d2 _ (by omega) (by omega) S3.out (by omega) k1 k2 (by omega) Q1.out Q2.out)
              rw [hz2] at C
              go_wp2_with (go_at_call 28; refine C.out.mono ?_; rintro er w4 ⟨rfl, d3, s4, p4, g4⟩)
              go_end0
              have J := sym_join (by omega) (by omega) (by omega) P3.out G3.out p4 g4 PARTS.out.2.2.2.2
              exact ⟨rfl, d3, s4, permIn_trans _ _ _ _ _ P2.out J.1, J.2⟩
            · have u1 : decide ((mid : Int) < (e : Int)) = true := by simp; omega
              have u2 : decide ((e : Int) < (b : Int)) = false := by simp; omega
              have g4 : Aside (SortedIn (ltOf cf) mid b d2) := by
                rcases (show e = mid ∨ e = b by omega) with e1 | e1
                · have := Q2.out
                  rw [e1] at this
                  exact this
                · have := Q1.out
                  rw [e1] at this
                  exact this
              go_wp2_with fail
              go_end0
              have J := sym_join (by omega) (by omega) (by omega) P3.out G3.out (permIn_refl _ _ _) g4.out PARTS.out.2.2.2.2
              exact ⟨rfl, d2, S3.out, permIn_trans _ _ _ _ _ P2.out J.1, J.2⟩
          · have u1 : decide ((mid : Int) < (e : Int)) = false := by simp; omega
            have g4 : Aside (SortedIn (ltOf cf) mid b d2) := by
              rcases (show e = mid ∨ e = b by omega) with e1 | e1
              · have := Q2.out
                rw [e1] at this
                exact this
              · have := Q1.out
                rw [e1] at this
                exact this
            go_wp2_with fail
            go_end0
            have J := sym_join (by omega) (by omega) (by omega) P3.out G3.out (permIn_refl _ _ _) g4.out PARTS.out.2.2.2.2
            exact ⟨rfl, d2, S3.out, permIn_trans _ _ _ _ _ P2.out J.1, J.2⟩
      · have u1 : decide ((s : Int) < (m : Int)) = true := by simp; omega
        have u2 : decide ((m : Int) < (e : Int)) = false := by simp; omega
        obtain ⟨d1, hd1'⟩ : ∃ d1, d1 = d := ⟨_, rfl⟩
        have P1 : Aside (PermIn s e d d1) := by rw [hd1']; exact permIn_refl _ _ _
        have G1 : Aside (∀ k, d1[k]! = rotv d s m e k) := by rw [hd1']; exact fun k => rotv_none d s m e hsm hme (by omega) k
        have S2 : Aside (SW encU w0 blk off d1 wr) := by rw [hd1']; exact S1
        clear hd1' S1
        go_upto_region 41 with fail
        have hz1 : d1.size = d.size := P1.out.1
        have PARTS : Aside _ := sym_parts hS HA.out HB.out has hsm hme heb EM.out FF.out.1 FF.out.2 G1.out
        have P2 : Aside (PermIn a b d d1) := permIn_mono _ _ _ _ _ _ has heb h3 P1.out
        clear G1 P1 k1 u1
        by_cases k1 : a < s
        · by_cases k2 : s < mid
          · have u1 : decide ((a : Int) < (s : Int)) = true := by simp; omega
            have u2 : decide ((s : Int) < (mid : Int)) = true := by simp; omega
            have C := Lib.hid (IH.out a s mid d1 _ (by omega) (by omega) S2.out (by omega) k1 k2 (by omega) PARTS.out.1 PARTS.out.2.1)
            rw [hz1] at C
            go_upto_region 43 with (go_at_call 28; refine C.out.mono ?_; rintro er w3 ⟨rfl, d2, s2, p1, g1⟩)
            have S3 : Aside (SW encU w0 blk off d2 w3) := s2
            have P3 : Aside (PermIn a mid d1 d2) := p1
            have G3 : Aside (SortedIn (ltOf cf) a mid d2) := g1
            clear s2 p1 g1 C S2 k2 u2
            have hz2 : d2.size = d.size := P3.out.1.trans hz1
            have Q1 : Aside (SortedIn (ltOf cf) mid e d2) := so_turn PARTS.out.2.2.1 fun q h _ => P3.out.2.1 q (.inr h)
            have Q2 : Aside (SortedIn (ltOf cf) e b d2) := so_turn PARTS.out.2.2.2.1 fun q h _ => P3.out.2.1 q (.inr (by omega))
            clear k1 u1
            by_cases k1 : mid < e
            · by_cases k2 : e < b
              · have u1 : decide ((mid : Int) < (e : Int)) = true := by simp; omega
                have u2 : decide ((e : Int) < (b : Int)) = true := by simp; omega
                have C := Lib.hid (IH.out mid e b d2 _ (by omega) (by omega) S3.out (by omega) k1 k2 (by omega) Q1.out Q2.out)
                rw [hz2] at C
                go_wp2_with (go_at_call 28; refine C.out.mono ?_; rintro er w4 ⟨rfl, d3, s4, p4, g4⟩)
                go_end0
                have J := sym_join (by omega) (by omega) (by omega) P3.out G3.out p4 g4 PARTS.out.2.2.2.2
                exact ⟨rfl, d3, s4, permIn_trans _ _ _ _ _ P2.out J.1, J.2⟩
              · have u1 : decide ((mid : Int) < (e : Int)) = true := by simp; omega
                have u2 : decide ((e : Int) < (b : Int)) = false := by simp; omega
                have g4 : Aside (SortedIn (ltOf cf) mid b d2) := by
                  rcases (show e = mid ∨ e = b by omega) with e1 | e1
                  · have := Q2.out
                    rw [e1] at this
                    exact this
                  · have := Q1.out
                    rw [e1] at this
                    exact this
                go_wp2_with fail
                go_end0
                have J := sym_join (by omega) (by omega) (by omega) P3.out G3.out (permIn_refl _ _ _) g4.out PARTS.out.2.2.2.2
                exact ⟨rfl, d2, S3.out, permIn_trans _ _ _ _ _ P2.out J.1, J.2⟩
            · have u1 : decide ((mid : Int) < (e : Int)) = false := by simp; omega
              have g4 : Aside (SortedIn (ltOf cf) mid b d2) := by
                rcases (show e = mid ∨ e = b by omega) with e1 | e1
                · have := Q2.out
                  rw [e1] at this
                  exact this
                · have := Q1.out
                  rw [e1] at this
                  exact this
              go_wp2_with fail
              go_end0
              have J := sym_join (by omega) (by omega) (by omega) P3.out G3.out (permIn_refl _ _ _) g4.out PARTS.out.2.2.2.2
              exact ⟨rfl, d2, S3.out, permIn_trans _ _ _ _ _ P2.out J.1, J.2⟩
          · have u1 : decide ((a : Int) < (s : Int)) = true := by simp; omega
            have u2 : decide ((s : Int) < (mid : Int)) = false := by simp; omega
            obtain ⟨d2, hd2'⟩ : ∃ d2, d2 = d1 := ⟨_, rfl⟩
            have P3 : Aside (PermIn a mid d1 d2) := by rw [hd2']; exact permIn_refl _ _ _
            have G3 : Aside (SortedIn (ltOf cf) a mid d2) := by
              rw [hd2']
              rcases (show s = a ∨ s = mid by omega) with e1 | e1
              · have := PARTS.out.2.1
                rw [e1] at this
                exact this
              · have := PARTS.out.1
                rw [e1] at this
                exact this
            rw [← hd2'] at S2
            have S3 := S2
            clear hd2' S2
            go_upto_region 43 with fail
            have hz2 : d2.size = d.size := P3.out.1.trans hz1
            have Q1 : Aside (SortedIn (ltOf cf) mid e d2) := so_turn PARTS.out.2.2.1 fun q h _ => P3.out.2.1 q (.inr h)
            have Q2 : Aside (SortedIn (ltOf cf) e b d2) := so_turn PARTS.out.2.2.2.1 fun q h _ => P3.out.2.1 q (.inr (by omega))
            clear k1 u1
            by_cases k1 : mid < e
            · by_cases k2 : e < b
              · have u1 : decide ((mid : Int) < (e : Int)) = true := by simp; omega
                have u2 : decide ((e : Int) < (b : Int)) = true := by simp; omega
                have C := Lib.hid (IH.out mid e b d2 _ (by omega) (by omega) S3.out (by omega) k1 k2 (by omega) Q1.out Q2.out)
                rw [hz2] at C
                go_wp2_with (go_at_call 28; refine C.out.mono ?_; rintro er w4 ⟨rfl, d3, s4, p4, g4⟩)
                go_end0
                have J := sym_join (by omega) (by omega) (by omega) P3.out G3.out p4 g4 PARTS.out.2.2.2.2
                exact ⟨rfl, d3, s4, permIn_trans _ _ _ _ _ P2.out J.1, J.2⟩
              · have u1 : decide ((mid : Int) < (e : Int)) = true := by simp; omega
                have u2 : decide ((e : Int) < (b : Int)) = false := by simp; omega
                have g4 : Aside (SortedIn (ltOf cf) mid b d2) := by
                  rcases (show e = mid ∨ e = b by omega) with e1 | e1
                  · have := Q2.out
                    rw [e1] at this
                    exact this
                  · have := Q1.out
                    rw [e1] at this
                    exact this
                go_wp2_with fail
                go_end0
                have J := sym_join (by omega) (by omega) (by omega) P3.out G3.out (permIn_refl _ _ _) g4.out PARTS.out.2.2.2.2
                exact ⟨rfl, d2, S3.out, permIn_trans _ _ _ _ _ P2.out J.1, J.2⟩
            · have u1 : decide ((mid : Int) < (e : Int)) = false := by simp; omega
              have g4 : Aside (SortedIn (ltOf cf) mid b d2) := by
                rcases (show e = mid ∨ e = b by omega) with e1 | e1
                · have := Q2.out
                  rw [e1] at this
                  exact this
                · have := Q1.out
                  rw [e1] at this
                  exact this
              go_wp2_with fail
              go_end0
              have J := sym_join (by omega) (by omega) (by omega) P3.out G3.out (permIn_refl _ _ _) g4.out PARTS.out.2.2.2.2
              exact ⟨rfl, d2, S3.out, permIn_trans _ _ _ _ _ P2.out J.1, J.2⟩
        · have u1 : decide ((a : Int) < (s : Int)) = false := by simp; omega
          obtain ⟨d2, hd2'⟩ : ∃ d2, d2 = d1 := ⟨_, rfl⟩
          have P3 : Aside (PermIn a mid d1 d2) := by rw [hd2']; exact permIn_refl _ _ _
          have G3 : Aside (SortedIn (ltOf cf) a mid d2) := by
            rw [hd2']
            rcases (show s = a ∨ s = mid by omega) with e1 | e1
            · have := PARTS.out.2.1
              rw [e1] at this
              exact this
            · have := PARTS.out.1
              rw [e1] at this
              exact this
          rw [← hd2'] at S2
          have S3 := S2
          clear hd2' S2
          go_upto_region 43 with fail
          have hz2 : d2.size = d.size := P3.out.1.trans hz1
          have Q1 : Aside (SortedIn (ltOf cf) mid e d2) := so_turn PARTS.out.2.2.1 fun q h _ => P3.out.2.1 q (.inr h)
          have Q2 : Aside (SortedIn (ltOf cf) e b d2) := so_turn PARTS.out.2.2.2.1 fun q h _ => P3.out.2.1 q (.inr (by omega))
          clear k1 u1
          by_cases k1 : mid < e
          · by_cases k2 : e < b
            · have u1 : decide ((mid : Int) < (e : Int)) = true := by simp; omega
              have u2 : decide ((e : Int) < (b : Int)) = true := by simp; omega
              have C := Lib.hid (IH.out mid e b d2 _ (by omega) (by omega) S3.out (by omega) k1 k2 (by omega) Q1.out Q2.out)
              rw [hz2] at C
              go_wp2_with (go_at_call 28; refine C.out.mono ?_; rintro er w4 ⟨rfl, d3, s4, p4, g4⟩)
              go_end0
              have J := sym_join (by omega) (by omega) (by omega) P3.out G3.out p4 g4 PARTS.out.2.2.2.2
              exact ⟨rfl, d3, s4, permIn_trans _ _ _ _ _ P2.out J.1, J.2⟩
            · have u1 : decide ((mid : Int) < (e : Int)) = true := by simp; omega
              have u2 : decide ((e : Int) < (b : Int)) = false := by simp; omega
              have g4 : Aside (SortedIn (ltOf cf) mid b d2) := by
                rcases (show e = mid ∨ e = b by omega) with e1 | e1
                · have := Q2.out
                  rw [e1] at this
                  exact this
                · have := Q1.out
                  rw [e1] at this
                  exact this
              go_wp2_with fail
              go_end0
              have J := sym_join (by omega) (by omega) (by omega) P3.out G3.out (permIn_refl _ _ _) g4.out PARTS.out.2.2.2.2
              exact ⟨rfl, d2, S3.out, permIn_trans _ _ _ _ _ P2.out J.1, J.2⟩
          · have u1 : decide ((mid : Int) < (e : Int)) = false := by simp; omega
            have g4 : Aside (SortedIn (ltOf cf) mid b d2) := by
              rcases (show e = mid ∨ e = b by omega) with e1 | e1
              · have := Q2.out
                rw [e1] at this
                exact this
              · have := Q1.out
                rw [e1] at this
                exact this
            go_wp2_with fail
            go_end0
            have J := sym_join (by omega) (by omega) (by omega) P3.out G3.out (permIn_refl _ _ _) g4.out PARTS.out.2.2.2.2
            exact ⟨rfl, d2, S3.out, permIn_trans _ _ _ _ _ P2.out J.1, J.2⟩

end Go.Proofs.Ytlgpgdliakiomaa
