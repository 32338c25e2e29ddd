/- Package office as landed: Advance, Revoke. api.Gate as a structure: its cells, opened, in a block. (Written by tools/mkrec.py.) The chapter's example (works of layer 14). -/
import Derived.Test.YtfcjemedheccgaaDoorGbd
import Derived.Test.YtfcjemedheccgaaDoorGbf
import Derived.Test.YtfcjemedheccgaaDoorGd
import Derived.Test.YtfcjemedheccgaaDoorGbe
namespace Go.Proofs.YtfcjemedheccgaaDoor
set_option maxRecDepth 100000
open Go.RowKit

set_option maxHeartbeats 1000000 in
theorem advance_end (g : Nat) (v u : Value) (s : OS) (hx : s.idx = s.len) (w : World) (h : OffAt w g v u s) :
    Calls Tryd.prog 19 #[.pointer (some ⟨g, 0, none⟩)] w fun e w' => e = .returned (.tuple #[.slice none 0 0, .int .i64 36]) ∧ Below w.heap.size w w' := by
  have C := Lib.hid (atEnd_any g v u s w h)
  rw [decide_eq_true hx] at C
  clear hx h
  go_enter Tryd.func19, Tryd.ntmps19
  go_wp2_with fail
  refine C.out.mono ?_
  rintro e w1 ⟨rfl, b1⟩
  have B1 := Lib.hid b1
  clear b1 C
  go_wp2
  go_ret2
  exact ⟨rfl, B1.out⟩
set_option maxHeartbeats 1000000 in
theorem advance_on (g : Nat) (v u : Value) (s : OS) (N : Nat) (ok : s.Ok N) (hN : N ≤ 4000000) (hx : s.idx ≠ s.len) (w : World) (T : Tab w) (hA : Away (Foot g v u)) (h : OffAt w g v u s) :
    Calls Tryd.prog 19 #[.pointer (some ⟨g, 0, none⟩)] w fun e w' => ∃ x v', e = .returned (.tuple #[x, .int .i64 0]) ∧ OwnRows w' w.heap.size 48 6 x (s.out.map Ent.enc) ∧ OffAt w' g v' u (s.next.more s.out) ∧ Moves (Foot g v u) (Foot g v' u) w w' := by
  have C := Lib.hid (atEnd_any g v u s w h)
  rw [decide_eq_false hx] at C
  have ok' := ok.next hx
  have CL := fun w h => Lib.hid (latest_any g v u s.next N ok' hN w h)
  have CS := fun b l w T h hl hd hla => Lib.hid (sign_any g v u s.next N ok' hN b l (latest s.gone s.issued) (by have h1 := latest_length s.gone s.issued; have := ok.many; omega) ok.lat w T hA h hl hd hla)
  rw [show (latest s.gone s.issued).map s.next.sign = s.out from rfl] at CS
  have r4 : IntKind.i64.wrap (s.idx + 1) = s.idx + 1 := by have := ok.idx1; have := ok.idx2; have := ok.len2; rw [IntWalk.i64_in _ (by omega)]
  have O := Lib.hid h
  have T0 := Lib.hid T
  have HA := Lib.hid hA
  clear hx h T hA ok ok' hN
  go_enter Tryd.func19, Tryd.ntmps19
  go_wp2_with fail
  refine C.out.mono ?_
  rintro e w1 ⟨rfl, b1⟩
  have B1 := Lib.hid b1
  have O1 := Lib.hid (O.out.below b1)
  have c3 := OffAt.c3 O1.out
  have X1 : Hid (Whole w1 g 63 (offC v u s).toArray) := Lib.hid O1.out.whole
  clear b1 C O
  go_wp2_with (with_reducible refine wpList_put_cell 3 ⟨by kernel_rfl, by kernel_rfl⟩ rfl _ _ rfl g 3 (by with_unfolding_all exact rfl) (.int .i64 (s.idx + 1)) (by with_unfolding_all exact rfl) (by with_unfolding_all exact rfl) (by with_unfolding_all exact rfl) _ _ X1.out _ (by with_unfolding_all exact rfl) ?_)
  intro w2 q2 x2 z2
  have O2 : Hid (OffAt w2 g v u s.next) := Lib.hid (O1.out.turned q2 x2 rfl rfl rfl rfl)
  have M2 : Hid (Moves (Foot g v u) (Foot g v u) w w2) := Lib.hid ((Moves.of_below _ B1.out).trans ⟨Keeps.of_grown q2 (fun k hk => .inl (.inl (by injection hk with hk; exact hk.symm))), fun i h => .inl h⟩)
  clear q2 x2 z2 O1 X1 B1 c3
  go_wp2_with fail
  refine (CL w2 O2.out).out.mono ?_
  rintro e w3 ⟨x, rfl, r3, b3⟩
  have R3 := Lib.hid r3
  have O3 := Lib.hid (O2.out.below b3)
  have M3 := Lib.hid (M2.out.trans (Moves.of_below _ b3))
  have T3 := Lib.hid (T0.out.moves M3.out HA.out)
  have T2 := Lib.hid (T0.out.moves M2.out HA.out)
  clear b3 r3 CL
  go_wp2_with fail
  refine (CS w2.heap.size x w3 T3.out O3.out R3.out (fun i e k => by have := (R3.out.lt i e).1; have := O2.out.lt i k; omega) (fun e => by have := (R3.out.lt _ e).1; have := T2.out.pos; omega)).out.mono ?_
  rintro e w4 ⟨rfl, v', r4', o4, k4, f4⟩
  have E : Hid (OwnRows w4 w.heap.size 48 6 x (s.out.map Ent.enc) ∧ OffAt w4 g v' u (s.next.more s.out) ∧ Moves (Foot g v u) (Foot g v' u) w w4) := Lib.hid
    ⟨r4'.less M2.out.keeps.size, o4, M3.out.keeps.then k4 (fun i k => k.imp (fun q => q) (fun e => Nat.le_trans M2.out.keeps.size (R3.out.lt i e).1)), fun i k => (f4 i k).imp (fun q => q) (fun q => Nat.le_trans M3.out.keeps.size q)⟩
  clear r4' o4 k4 f4 R3 O3 M3 T3 T2 O2 M2 CS
  go_wp2
  go_ret2
  exact ⟨_, _, rfl, E.out⟩
theorem advance_any (g : Nat) (v u : Value) (s : OS) (N : Nat) (ok : s.Ok N) (hN : N ≤ 4000000) (w : World) (T : Tab w) (hA : Away (Foot g v u)) (h : OffAt w g v u s) :
    Calls Tryd.prog 19 #[.pointer (some ⟨g, 0, none⟩)] w fun e w' => ∃ x v', e = .returned (.tuple #[x, .int .i64 (advC s)]) ∧ OwnRows w' w.heap.size 48 6 x ((advL s).map Ent.enc) ∧ OffAt w' g v' u (advS s) ∧ Moves (Foot g v u) (Foot g v' u) w w' := by
  rw [advC, advL, advS]
  by_cases hx : s.idx = s.len
  · rw [if_pos hx, if_pos hx, if_pos hx]
    exact (advance_end g v u s hx w h).mono fun _ _ q => ⟨_, v, q.1, OwnRows.nil _ _ _ _, h.below q.2, Moves.of_below _ q.2⟩
  · rw [if_neg hx, if_neg hx, if_neg hx]
    exact advance_on g v u s N ok hN hx w T hA h

set_option maxHeartbeats 1000000 in
theorem revoke_any (g : Nat) (v u : Value) (s : OS) (n : List UInt8) (N : Nat) (ok : s.Ok N) (hN : N ≤ 3000000) (w : World) (T : Tab w) (hA : Away (Foot g v u)) (h : OffAt w g v u s) :
    Calls Tryd.prog 20 #[.pointer (some ⟨g, 0, none⟩), .string ⟨n.toArray⟩] w fun e w' => ∃ x v' u', e = .returned (.tuple #[x, .int .i64 (revC s n)]) ∧ OwnRows w' w.heap.size 48 6 x ((revL s n).map Ent.enc) ∧ OffAt w' g v' u' (revS s n) ∧ Moves (Foot g v u) (Foot g v' u') w w' := by
  have hN' : N ≤ 4000000 := by omega
  have CK := Lib.hid (knows_any g v u s n N ok hN' w h)
  have CM := fun w h => Lib.hid (marked_below g v u s n N ok hN' w h)
  have CE := fun w h => Lib.hid (atEnd_any g v u s w h)
  have CP := fun w h => Lib.hid (mark_any g v u s n N ok hN' w h)
  have CA := fun u' w T hA h => Lib.hid (advance_any g v u' (s.mark n) (N + 1) (ok.mark n) (by omega) w T hA h)
  have O := Lib.hid h
  have T0 := Lib.hid T
  have HA := Lib.hid hA
  rw [revL, revS]
  have HC : Hid (revC s n = if s.knows n = false then 30 else if s.marked n = true then 33 else advC s) := Lib.hid rfl
  have HD : Hid (advC s = if s.idx = s.len then 36 else 0) := Lib.hid rfl
  have HE : Hid (advC (s.mark n) = advC s) := Lib.hid rfl
  have bad : ∀ c : Int, c ≠ 0 → revC s n = c → Calls Tryd.prog 20 #[.pointer (some ⟨g, 0, none⟩), .string ⟨n.toArray⟩] w (fun e w' => e = .returned (.tuple #[.slice none 0 0, .int .i64 c]) ∧ Below w.heap.size w w') →
      Calls Tryd.prog 20 #[.pointer (some ⟨g, 0, none⟩), .string ⟨n.toArray⟩] w fun e w' => ∃ x v' u', e = .returned (.tuple #[x, .int .i64 (revC s n)]) ∧ OwnRows w' w.heap.size 48 6 x ((if revC s n = 0 then advL (s.mark n) else []).map Ent.enc) ∧ OffAt w' g v' u' (if revC s n = 0 then advS (s.mark n) else s) ∧ Moves (Foot g v u) (Foot g v' u') w w' := by
    intro c hc e C
    have hne : revC s n ≠ 0 := by rw [e]; exact hc
    rw [if_neg hne, if_neg hne, e]
    exact C.mono fun _ _ q => ⟨_, v, u, q.1, OwnRows.nil _ _ _ _, O.out.below q.2, Moves.of_below _ q.2⟩
  have BAD := Lib.hid bad
  clear ok hN hN' h T hA bad
  cases hk : s.knows n with
  | false =>
    rw [hk] at CK
    refine BAD.out 30 (by decide) (by rw [HC.out, if_pos hk]) ?_
    clear hk HC HD HE BAD CA CP CE CM
    go_enter Tryd.func20, Tryd.ntmps20
    go_wp2_with fail
    refine (CK.out).mono ?_
    rintro e1 w1 ⟨rfl, b1⟩
    have B1 := Lib.hid b1
    clear b1 
    go_wp2
    go_ret2
    exact ⟨rfl, B1.out⟩
  | true =>
    rw [hk] at CK
    have h1 : ¬ s.knows n = false := by simp [hk]
    cases hm : s.marked n with
    | true =>
      simp only [hm] at CM
      refine BAD.out 33 (by decide) (by rw [HC.out, if_neg h1, if_pos hm]) ?_
      clear hk h1 hm HC HD HE BAD CA CP CE
      go_enter Tryd.func20, Tryd.ntmps20
      go_wp2_with fail
      refine (CK.out).mono ?_
      rintro e1 w1 ⟨rfl, b1⟩
      have B1 := Lib.hid b1
      clear b1 
      go_wp2_with fail
      refine ((CM w1 (O.out.below B1.out)).out).mono ?_
      rintro e2 w2 ⟨rfl, b2⟩
      have B2 := Lib.hid (B1.out.trans (b2.mono B1.out.size))
      clear b2 B1
      go_wp2
      go_ret2
      exact ⟨rfl, B2.out⟩
    | false =>
      simp only [hm] at CM
      have h2 : ¬ s.marked n = true := by simp [hm]
      by_cases hx : s.idx = s.len
      · refine BAD.out 36 (by decide) (by rw [HC.out, if_neg h1, if_neg h2, HD.out, if_pos hx]) ?_
        simp only [decide_eq_true hx] at CE
        clear hk h1 h2 hm hx HC HD HE BAD CA CP
        go_enter Tryd.func20, Tryd.ntmps20
        go_wp2_with fail
        refine (CK.out).mono ?_
        rintro e1 w1 ⟨rfl, b1⟩
        have B1 := Lib.hid b1
        clear b1 
        go_wp2_with fail
        refine ((CM w1 (O.out.below B1.out)).out).mono ?_
        rintro e2 w2 ⟨rfl, b2⟩
        have B2 := Lib.hid (B1.out.trans (b2.mono B1.out.size))
        clear b2 B1
        go_wp2_with fail
        refine ((CE w2 (O.out.below B2.out)).out).mono ?_
        rintro e3 w3 ⟨rfl, b3⟩
        have B3 := Lib.hid (B2.out.trans (b3.mono B2.out.size))
        clear b3 B2
        go_wp2
        go_ret2
        exact ⟨rfl, B3.out⟩
      · have h0 : revC s n = 0 := by rw [HC.out, if_neg h1, if_neg h2, HD.out, if_neg hx]
        have ha : advC (s.mark n) = 0 := by rw [HE.out, HD.out, if_neg hx]
        rw [h0, if_pos rfl, if_pos rfl]
        simp only [ha] at CA
        simp only [decide_eq_false hx] at CE
        clear hk h1 h2 hm hx HC HD HE BAD h0 ha
        go_enter Tryd.func20, Tryd.ntmps20
        go_wp2_with fail
        refine (CK.out).mono ?_
        rintro e1 w1 ⟨rfl, b1⟩
        have B1 := Lib.hid b1
        clear b1 
        go_wp2_with fail
        refine ((CM w1 (O.out.below B1.out)).out).mono ?_
        rintro e2 w2 ⟨rfl, b2⟩
        have B2 := Lib.hid (B1.out.trans (b2.mono B1.out.size))
        clear b2 B1
        go_wp2_with fail
        refine ((CE w2 (O.out.below B2.out)).out).mono ?_
        rintro e3 w3 ⟨rfl, b3⟩
        have B3 := Lib.hid (B2.out.trans (b3.mono B2.out.size))
        clear b3 B2
        go_wp2_with fail
        refine (CP w3 (O.out.below B3.out)).out.mono ?_
        rintro e w5 ⟨rfl, u', o5, m5⟩
        have O5 := Lib.hid o5
        have M5 := Lib.hid ((Moves.of_below _ B3.out).trans m5)
        have T5 := Lib.hid (T0.out.moves M5.out HA.out)
        have A5 := Lib.hid (M5.out.away T0.out HA.out)
        clear o5 m5 B3 CP CE CM CK
        go_wp2_with fail
        refine (CA u' w5 T5.out A5.out O5.out).out.mono ?_
        rintro e w6 ⟨x, v', rfl, r6, o6, m6⟩
        have E : Hid (OwnRows w6 w.heap.size 48 6 x ((advL (s.mark n)).map Ent.enc) ∧ OffAt w6 g v' u' (advS (s.mark n)) ∧ Moves (Foot g v u) (Foot g v' u') w w6) := Lib.hid ⟨r6.less M5.out.keeps.size, o6, M5.out.trans m6⟩
        clear r6 o6 m6 O5 M5 T5 A5 CA
        go_wp2
        go_ret2
        exact ⟨_, _, _, rfl, E.out⟩
end Go.Proofs.YtfcjemedheccgaaDoor

namespace Go.Proofs.YtfcjemedheccgaaDoor
set_option maxRecDepth 100000
open Go.RowKit Go.ChangeShapes Go.WideShapes Go.ChangeAt

structure Gate where
  index : Int
  key : List UInt8
deriving DecidableEq
namespace Gate
def enc (x : Gate) : List Value := [.int .i64 x.index, .string ⟨x.key.toArray⟩]
def ks : List CK := [.int .i64, .str]
abbrev val (x : Gate) : Value := .agg x.enc.toArray
theorem len (x : Gate) : x.enc.length = 2 := rfl
theorem fits (x : Gate) : Fits ks x.enc := ⟨⟨_, rfl⟩, ⟨_, rfl⟩, trivial⟩
theorem one (x : Gate) : x.enc.toArray.all (·.oneCell') = true := by simp [enc, Value.oneCell']
theorem isRec : Rec Tryd.prog 37 ks := ⟨by kernel_rfl, by kernel_rfl, by kernel_rfl⟩
theorem size (x : Gate) : (Tryd.prog.info? 37).map (·.size) = some x.enc.toArray.size := by
  have h : (Tryd.prog.info? 37).map (·.size) = some 2 := by kernel_rfl
  exact h
def zero : Gate := ⟨0, []⟩
theorem zero_is : (Tryd.prog.info? 37).map (·.zero) = some (some (.agg zero.enc.toArray)) := by kernel_rfl
/-- Its numbers are of their types. -/
structure Ok (x : Gate) : Prop where
  index_ok : -9223372036854775808 ≤ x.index ∧ x.index ≤ 9223372036854775807
theorem of_fits {cs : List Value} (h : FitsW ks cs) : ∃ x : Gate, cs = x.enc ∧ x.Ok := by
  obtain ⟨_, r0, rfl, ⟨z0, rfl, w0⟩, q0⟩ := FitsW.uncons h
  obtain ⟨_, r1, rfl, ⟨z1, rfl⟩, q1⟩ := FitsW.uncons q0
  have hn := FitsW.nil q1
  subst hn
  have b0 := bounds_i64 w0
  exact ⟨⟨z0, z1⟩, rfl, ⟨b0⟩⟩
theorem opened {H : Type} {en : TypeId × Value → H} {W : World} {b base : Nat} {sp : Nat → Bool} {hd : Bool} {v : Value} {d : DataW H} {p : List MemPlace} (hv : Value.okWide Tryd.prog W .any base 37 v) (h : DataW.Trod en Tryd.prog W b sp hd 37 v d p) : ∃ x : Gate, v = x.val ∧ x.Ok := by
  obtain ⟨cs, rfl, hf⟩ := open_rec isRec hv h
  obtain ⟨x, rfl, hx⟩ := of_fits hf
  exact ⟨x, rfl, hx⟩
theorem same (x y : Gate) : eqCells x.enc y.enc = decide (x = y) := by
  rw [Bool.eq_iff_iff, decide_eq_true_eq]
  constructor
  · intro h
    simp only [enc, eqCells, cellEq, Bool.and_eq_true, beq_iff_eq, Bool.and_true, ba_list] at h
    obtain ⟨h0, h1⟩ := h
    obtain ⟨a75, a76⟩ := x
    obtain ⟨b77, b78⟩ := y
    simp only at h0 h1
    subst h0 h1
    rfl
  · rintro rfl
    exact eqCells_refl x.fits
theorem eq_run (x y : Gate) (w : World) : (binOp .eql 37 x.val y.val).run Tryd.prog w = .ok (.bool (decide (x = y))) w := by
  rw [← same]
  exact run_eq_rec isRec _ _ x.fits y.fits w
/-- In a block. -/
abbrev At (w : World) (g : Nat) (x : Gate) : Prop := Whole w g 37 x.enc.toArray
theorem At.cells {w : World} {g : Nat} {x : Gate} (h : At w g x) : w.cell? ⟨g, 0, none⟩ = some (.int .i64 x.index) ∧ w.cell? ⟨g, 1, none⟩ = some (.string ⟨x.key.toArray⟩) :=
  ⟨h.at_ 0, h.at_ 1⟩
theorem At.at_index {w : World} {g : Nat} {x : Gate} (h : At w g x) : w.cell? ⟨g, 0, none⟩ = some (.int .i64 x.index) := h.at_ 0
theorem At.at_key {w : World} {g : Nat} {x : Gate} (h : At w g x) : w.cell? ⟨g, 1, none⟩ = some (.string ⟨x.key.toArray⟩) := h.at_ 1
theorem At.set_index {w : World} {g : Nat} {x : Gate} (h : At w g x) (v : Int) : At (w.setCell ⟨g, 0, none⟩ (.int .i64 v)) g { x with index := v } := h.stored 0 _
theorem At.set_key {w : World} {g : Nat} {x : Gate} (h : At w g x) (v : List UInt8) : At (w.setCell ⟨g, 1, none⟩ (.string ⟨v.toArray⟩)) g { x with key := v } := h.stored 1 _
end Gate
end Go.Proofs.YtfcjemedheccgaaDoor

namespace Go.Proofs.YtfcjemedheccgaaDoor
set_option maxRecDepth 100000
open Go.RowKit

set_option maxHeartbeats 1000000 in
theorem gate_nil (w : World) :
    Calls Tryd.prog 11 #[.pointer none] w fun e w' => e = .returned (gateV 0 []) ∧ Below w.heap.size w w' := by
  go_enter Tryd.func11, Tryd.ntmps11
  go_wp2_with fail
  exact bodyPost_ret (results_gate rfl _ _ _ 0 [] rfl (Whole.new _ _ _)) rfl ⟨rfl, (Below.refl _ _).alloc (Nat.le_refl _) _⟩
def exN : List UInt8 := [97]
theorem ex14 : ∃ (s0 s1 s2 : OS) (e1 e2 : Ent), s0 = ⟨seedN, 1, 0, [], []⟩ ∧ s0.Ok 0 ∧ s1.Ok 1 ∧ issC s0 exN 1 2 = 0 ∧ issE s0 exN 7 1 2 = e1 ∧ issS s0 exN 7 1 2 = s1 ∧ s1.idx ≠ s1.len ∧ s1.out = [e2] ∧ s1.next.more s1.out = s2 ∧ s2.idx = s2.len ∧ e1.name = exN ∧ e2.index = 1 ∧ e2.id = 7 := by
  have h0 : (⟨seedN, 1, 0, [], []⟩ : OS).Ok 0 := ⟨by decide, by decide, by decide, by decide, by decide, by decide, by decide, fun e he => by cases he⟩
  have hc : issC ⟨seedN, 1, 0, [], []⟩ exN 1 2 = 0 := by
    rw [issC, if_neg (by decide), if_neg (by decide), if_neg (by decide)]
  obtain ⟨s0, hs⟩ : ∃ s : OS, s = ⟨seedN, 1, 0, [], []⟩ := ⟨_, rfl⟩
  obtain ⟨e1, he1⟩ : ∃ e, e = s0.sign ⟨exN, 7, 1, 2, 0, []⟩ := ⟨_, rfl⟩
  rw [← hs] at h0 hc
  have hi : issS s0 exN 7 1 2 = s0.more [e1] := by rw [issS, if_pos hc, he1]
  have ho : (s0.more [e1]).out = [(s0.more [e1]).next.sign e1] := by
    have h : (s0.more [e1]).issued = [e1] := by rw [hs]; rfl
    have h' : (s0.more [e1]).gone = [] := by rw [hs]; rfl
    rw [OS.out, h, h', show latest [] [e1] = [e1] from by simp [latest, latStep]]
    rfl
  refine ⟨s0, s0.more [e1], _, e1, _, hs, h0, hi ▸ h0.iss exN 7 1 2 (by decide) (by decide), hc, by rw [issE, if_pos hc, he1], hi, ?_, ho, rfl, ?_, ?_, ?_, ?_⟩
  · rw [hs]; show (0 : Int) ≠ 1; decide
  · rw [hs]; rfl
  · rw [he1]; rfl
  · rw [hs]; rfl
  · rw [he1]; rfl
theorem own_slice {w : World} {b : Nat} {x : Value} {e : Ent} (h : OwnRows w b 48 6 x [e.enc]) : ∃ gl cap, x = .slice (some ⟨gl, 0, none⟩) 1 cap ∧ b ≤ gl ∧ gl < w.heap.size ∧ ∀ j u, e.enc[j]? = some u → w.cell? ⟨gl, j, none⟩ = some u := by
  obtain ⟨gl, cap, e', h1, h2, hc⟩ := h.spot (by simp)
  refine ⟨gl, cap, e', h1, h2, fun j u hj => ?_⟩
  have q := hc 0 _ rfl j u hj
  rwa [Nat.zero_mul, Nat.zero_add] at q
set_option maxHeartbeats 2000000 in
theorem works14 (w : World) (T : Tab w) :
    Calls Tryd.prog 7 #[] w fun e w' => e = .returned (.bool true) ∧ Below w.heap.size w w' := by
  have T0 := Lib.hid T
  obtain ⟨s0, s1, s2, e1, e2, hs0, ok0, ok1, hc, he, hi, hne, hout, hs2, hend, hn1, hx2, hd2⟩ := ex14
  have C0 := Lib.hid (offNew_good seedN 1 (by decide) (by decide) w T)
  rw [← hs0] at C0
  have C1 := fun g w T hA h => Lib.hid (issue_any g (.slice none 0 0) (.slice none 0 0) s0 0 ok0 (by decide) exN 7 1 2 (by decide) (by decide) w T hA h)
  rw [hc, he, hi] at C1
  have C2 := fun g v w T hA h => Lib.hid (advance_on g v (.slice none 0 0) s1 1 ok1 (by decide) hne w T hA h)
  rw [hs2, hout] at C2
  simp only [List.map_cons, List.map_nil] at C2
  have C3 := fun g v w h => Lib.hid (advance_end g v (.slice none 0 0) s2 hend w h)
  have C4 := fun w => Lib.hid (issue_nil exN 1 1 1 w)
  have C5 := fun w => Lib.hid (issued_nil w)
  have C6 := fun w => Lib.hid (gate_nil w)
  have HN := Lib.hid hn1
  have HX := Lib.hid hx2
  have HD := Lib.hid hd2
  clear ok0 ok1 hs0 hc he hi hne hout hs2 hend hn1 hx2 hd2 T
  go_enter Tryd.func7, Tryd.ntmps7
  go_wp2_with fail
  refine C0.out.mono ?_
  rintro e w1 ⟨g, rfl, o1, hg, b1⟩
  have O1 := Lib.hid o1
  have B1 := Lib.hid b1
  have HG := Lib.hid hg
  have T1 := Lib.hid (T0.out.below b1 T0.out.pos)
  have A1 : Hid (Away (Foot g (.slice none 0 0) (.slice none 0 0))) := Lib.hid (by
    rintro (k | k | k)
    · have := T0.out.pos; omega
    · cases k
    · cases k)
  have F1 : Hid (∀ i, Foot g (.slice none 0 0) (.slice none 0 0) i → w.heap.size ≤ i) := Lib.hid (by
    rintro i (k | k | k)
    · omega
    · cases k
    · cases k)
  clear o1 b1 hg C0
  go_wp2_with fail
  refine (C1 g w1 T1.out A1.out O1.out).out.mono ?_
  rintro e w2 ⟨rfl, v', o2, m2⟩
  have O2 := Lib.hid o2
  have M2 := Lib.hid m2
  have T2 := Lib.hid (T1.out.moves m2 A1.out)
  have A2 := Lib.hid (m2.away T1.out A1.out)
  have B2 := Lib.hid (B1.out.trans (m2.keeps.below F1.out B1.out.size))
  have F2 : Hid (∀ i, Foot g v' (.slice none 0 0) i → w.heap.size ≤ i) := Lib.hid (fun i k => (m2.foot i k).elim (F1.out i) (fun q => Nat.le_trans B1.out.size q))
  clear o2 m2 C1 M2 O1 T1 A1 F1 B1
  go_wp2_with (refine wpList_alloc_row rfl 48 rfl ent0.cells ent_zero ?_)
  intro w3 b3 x3 z3
  have X3 := Lib.hid x3
  have O3 := Lib.hid (O2.out.below b3)
  have HF3 := Lib.hid O2.out.lt
  have B3 := Lib.hid (B2.out.trans (b3.mono B2.out.size))
  have T3 := Lib.hid (T2.out.below b3 T2.out.pos)
  have S3 := Lib.hid B2.out.size
  obtain ⟨X, hX⟩ : ∃ q, q = w2.heap.size := ⟨_, rfl⟩
  rw [← hX] at X3 S3 HF3 ⊢
  clear b3 x3 z3 hX O2 B2 T2
  go_wp2_with (with_reducible refine wpList_store_whole rfl 48 _ _ rfl X e1.cells (by with_unfolding_all exact rfl) (by with_unfolding_all exact rfl) _ _ X3.out (ent_size' _) rfl (Ent.cells_one _) ?_)
  intro w4 q4 x4 z4
  have X4 : Hid (EntAt w4 X e1) := Lib.hid x4
  have k4 : Keeps (fun i => i = X) w3 w4 := Keeps.of_grown q4 (fun k hk => .inl (by injection hk with hk; exact hk.symm))
  have O4 := Lib.hid (O3.out.keeps k4 (fun i k e => by have := HF3.out i k; omega))
  have B4 := Lib.hid (B3.out.grown q4 B3.out.size (fun k hk => by injection hk with hk; have := S3.out; omega))
  have T4 := Lib.hid (T0.out.below B4.out T0.out.pos)
  clear q4 x4 z4 k4 X3 O3 B3 T3
  go_wp2_with fail
  refine (C2 g v' w4 T4.out A2.out O4.out).out.mono ?_
  rintro e w5 ⟨x, v'', rfl, r5, o5, m5⟩
  have X5 : Hid (EntAt w5 X e1) := Lib.hid (Whole.keeps X4.out m5.keeps (fun k => by have := HF3.out X k; omega))
  have O5 := Lib.hid o5
  have B5 := Lib.hid (B4.out.trans (m5.keeps.below F2.out B4.out.size))
  obtain ⟨gl, cap, rfl, -, hgl, hcl⟩ := own_slice r5
  have R5 := Lib.hid (fun j u h => hcl j u h)
  have G5 := Lib.hid hgl
  clear r5 o5 m5 C2 X4 O4 B4 hgl hcl
  go_wp2_with fail
  refine (C3 g v'' w5 O5.out).out.mono ?_
  rintro e w6 ⟨rfl, b6⟩
  have X6 := Lib.hid (EntAt.below X5.out b6 X5.out.lt)
  have B6 := Lib.hid (B5.out.trans (b6.mono B5.out.size))
  have R6 := Lib.hid (fun j u h => (b6.cell (p := ⟨gl, j, none⟩) G5.out).trans (R5.out j u h))
  have G6 := Lib.hid (Nat.lt_of_lt_of_le G5.out b6.size)
  clear b6 C3 X5 B5 R5 O5 G5
  go_wp2_with fail
  refine (C4 w6).out.mono ?_
  rintro e w7 ⟨rfl, b7⟩
  have X7 := Lib.hid (EntAt.below X6.out b7 X6.out.lt)
  have B7 := Lib.hid (B6.out.trans (b7.mono B6.out.size))
  have R7 := Lib.hid (fun j u h => (b7.cell (p := ⟨gl, j, none⟩) G6.out).trans (R6.out j u h))
  have G7 := Lib.hid (Nat.lt_of_lt_of_le G6.out b7.size)
  clear b7 C4 X6 B6 R6 G6
  go_wp2_with (refine wpList_alloc_row rfl 48 rfl ent0.cells ent_zero ?_)
  intro w8 b8 x8 z8
  have Y8 := Lib.hid x8
  have X8 := Lib.hid (EntAt.below X7.out b8 X7.out.lt)
  have B8 := Lib.hid (B7.out.trans (b8.mono B7.out.size))
  have R8 := Lib.hid (fun j u h => (b8.cell (p := ⟨gl, j, none⟩) G7.out).trans (R7.out j u h))
  have S8 := Lib.hid (And.intro B7.out.size (And.intro G7.out X7.out.lt))
  obtain ⟨Y, hY⟩ : ∃ q, q = w7.heap.size := ⟨_, rfl⟩
  rw [← hY] at Y8 S8 ⊢
  clear b8 x8 z8 hY X7 B7 R7 G7
  go_wp2_with (with_reducible refine wpList_store_whole rfl 48 _ _ rfl Y ent0.cells (by with_unfolding_all exact rfl) (by with_unfolding_all exact rfl) _ _ Y8.out (ent_size' _) rfl (Ent.cells_one _) ?_)
  intro w9 q9 x9 z9
  have X9 : Hid (EntAt w9 X e1) := Lib.hid (grown_far X8.out q9 (by have := S8.out; omega))
  have B9 := Lib.hid (B8.out.grown q9 B8.out.size (fun k hk => by injection hk with hk; have := S8.out; omega))
  have R9 := Lib.hid (fun j u h => ((q9.cell (a := ⟨gl, j, none⟩) (R8.out j u h) (by have := S8.out.2.1; intro e; injection e with e; have e : gl = Y := e; omega))))
  clear q9 x9 z9 X8 B8 R8 Y8
  obtain ⟨c0, -⟩ := X9.out.six
  rw [HN.out] at c0
  have d1 : w9.cell? ⟨gl, 1, none⟩ = some (.int .u64 7) := by have := R9.out 1 _ rfl; rwa [HD.out] at this
  have d4 : w9.cell? ⟨gl, 4, none⟩ = some (.int .i64 1) := by have := R9.out 4 _ rfl; rwa [HX.out] at this
  go_wp2_with fail
  refine (C5 w9).out.mono ?_
  rintro e w10 ⟨rfl, rfl⟩
  go_wp2_with fail
  refine (C6 _).out.mono ?_
  rintro e w11 ⟨rfl, b11⟩
  have B11 := Lib.hid (B9.out.trans (b11.mono B9.out.size))
  clear b11 C5 C6 X9 B9 R9
  go_wp2_with (with_reducible refine wpList_eq_rec_w Gate.isRec (by kernel_rfl) _ _ rfl Gate.zero.enc Gate.zero.enc Gate.zero.fits Gate.zero.fits (by with_unfolding_all exact rfl) (by with_unfolding_all exact rfl) true (by kernel_rfl) ?_)
  go_ret
  exact ⟨rfl, B11.out⟩
end Go.Proofs.YtfcjemedheccgaaDoor
