/- api.Session as a structure: its cells, opened, in a block. (Written by tools/mkrec.py.) -/
import Derived.Test.YtjohlnpalcmhbaaRwS
import Derived.Test.YtjohlnpalcmhbaaRecEn
import Derived.Test.YtjohlnpalcmhbaaRecWn
namespace Go.Proofs.Ytjohlnpalcmhbaa
set_option maxRecDepth 100000
open Go.RowKit Go.ChangeShapes Go.WideShapes Go.ChangeAt

structure Ses where
  id : Nat
  nonce : Nat
  peer : Ent
  role : Int
  state : Int
  send : List UInt8
  hear : List UInt8
  epoch : Int
  count : Int
  since : Int
  seq : Int
  seen : Win
  used : Int
deriving DecidableEq
namespace Ses
def enc (x : Ses) : List Value := [.int .u64 (x.id : Int), .int .u64 (x.nonce : Int), .string ⟨x.peer.name.toArray⟩, .int .u64 (x.peer.id : Int), .int .i64 x.peer.since, .int .i64 x.peer.till, .int .i64 x.peer.index, .string ⟨x.peer.tag.toArray⟩, .int .i64 x.role, .int .i64 x.state, .string ⟨x.send.toArray⟩, .string ⟨x.hear.toArray⟩, .int .i64 x.epoch, .int .i64 x.count, .int .i64 x.since, .int .i64 x.seq, .int .i64 x.seen.top, .int .u64 (x.seen.low : Int), .int .u64 (x.seen.high : Int), .int .i64 x.used]
def ks : List CK := [.int .u64, .int .u64, .str, .int .u64, .int .i64, .int .i64, .int .i64, .str, .int .i64, .int .i64, .str, .str, .int .i64, .int .i64, .int .i64, .int .i64, .int .i64, .int .u64, .int .u64, .int .i64]
abbrev val (x : Ses) : Value := .agg x.enc.toArray
theorem len (x : Ses) : x.enc.length = 20 := rfl
theorem fits (x : Ses) : Fits ks x.enc := ⟨⟨_, rfl⟩, ⟨_, rfl⟩, ⟨_, rfl⟩, ⟨_, rfl⟩, ⟨_, rfl⟩, ⟨_, rfl⟩, ⟨_, rfl⟩, ⟨_, rfl⟩, ⟨_, rfl⟩, ⟨_, rfl⟩, ⟨_, rfl⟩, ⟨_, rfl⟩, ⟨_, rfl⟩, ⟨_, rfl⟩, ⟨_, rfl⟩, ⟨_, rfl⟩, ⟨_, rfl⟩, ⟨_, rfl⟩, ⟨_, rfl⟩, ⟨_, rfl⟩, trivial⟩
theorem one (x : Ses) : x.enc.toArray.all (·.oneCell') = true := by simp [enc, Value.oneCell']
theorem isRec : Rec Try.prog 36 ks := ⟨by kernel_rfl, by kernel_rfl, by kernel_rfl⟩
theorem size (x : Ses) : (Try.prog.info? 36).map (·.size) = some x.enc.toArray.size := by
  have h : (Try.prog.info? 36).map (·.size) = some 20 := by kernel_rfl
  exact h
def zero : Ses := ⟨0, 0, Ent.zero, 0, 0, [], [], 0, 0, 0, 0, Win.zero, 0⟩
theorem zero_is : (Try.prog.info? 36).map (·.zero) = some (some (.agg zero.enc.toArray)) := by kernel_rfl
/-- Its numbers are of their types. -/
structure Ok (x : Ses) : Prop where
  id_ok : x.id < 18446744073709551616
  nonce_ok : x.nonce < 18446744073709551616
  peer_id_ok : x.peer.id < 18446744073709551616
  peer_since_ok : -9223372036854775808 ≤ x.peer.since ∧ x.peer.since ≤ 9223372036854775807
  peer_till_ok : -9223372036854775808 ≤ x.peer.till ∧ x.peer.till ≤ 9223372036854775807
  peer_index_ok : -9223372036854775808 ≤ x.peer.index ∧ x.peer.index ≤ 9223372036854775807
  role_ok : -9223372036854775808 ≤ x.role ∧ x.role ≤ 9223372036854775807
  state_ok : -9223372036854775808 ≤ x.state ∧ x.state ≤ 9223372036854775807
  epoch_ok : -9223372036854775808 ≤ x.epoch ∧ x.epoch ≤ 9223372036854775807
  count_ok : -9223372036854775808 ≤ x.count ∧ x.count ≤ 9223372036854775807
  since_ok : -9223372036854775808 ≤ x.since ∧ x.since ≤ 9223372036854775807
  seq_ok : -9223372036854775808 ≤ x.seq ∧ x.seq ≤ 9223372036854775807
  seen_top_ok : -9223372036854775808 ≤ x.seen.top ∧ x.seen.top ≤ 9223372036854775807
  seen_low_ok : x.seen.low < 18446744073709551616
  seen_high_ok : x.seen.high < 18446744073709551616
  used_ok : -9223372036854775808 ≤ x.used ∧ x.used ≤ 9223372036854775807
theorem of_fits {cs : List Value} (h : FitsW ks cs) : ∃ x : Ses, cs = x.enc ∧ x.Ok := by
  obtain ⟨_, r0, rfl, ⟨z0, rfl, w0⟩, q0⟩ := FitsW.uncons h
  obtain ⟨_, r1, rfl, ⟨z1, rfl, w1⟩, q1⟩ := FitsW.uncons q0
  obtain ⟨_, r2, rfl, ⟨z2, rfl⟩, q2⟩ := FitsW.uncons q1
  obtain ⟨_, r3, rfl, ⟨z3, rfl, w3⟩, q3⟩ := FitsW.uncons q2
  obtain ⟨_, r4, rfl, ⟨z4, rfl, w4⟩, q4⟩ := FitsW.uncons q3
  obtain ⟨_, r5, rfl, ⟨z5, rfl, w5⟩, q5⟩ := FitsW.uncons q4
  obtain ⟨_, r6, rfl, ⟨z6, rfl, w6⟩, q6⟩ := FitsW.uncons q5
  obtain ⟨_, r7, rfl, ⟨z7, rfl⟩, q7⟩ := FitsW.uncons q6
  obtain ⟨_, r8, rfl, ⟨z8, rfl, w8⟩, q8⟩ := FitsW.uncons q7
  obtain ⟨_, r9, rfl, ⟨z9, rfl, w9⟩, q9⟩ := FitsW.uncons q8
  obtain ⟨_, r10, rfl, ⟨z10, rfl⟩, q10⟩ := FitsW.uncons q9
  obtain ⟨_, r11, rfl, ⟨z11, rfl⟩, q11⟩ := FitsW.uncons q10
  obtain ⟨_, r12, rfl, ⟨z12, rfl, w12⟩, q12⟩ := FitsW.uncons q11
  obtain ⟨_, r13, rfl, ⟨z13, rfl, w13⟩, q13⟩ := FitsW.uncons q12
  obtain ⟨_, r14, rfl, ⟨z14, rfl, w14⟩, q14⟩ := FitsW.uncons q13
  obtain ⟨_, r15, rfl, ⟨z15, rfl, w15⟩, q15⟩ := FitsW.uncons q14
  obtain ⟨_, r16, rfl, ⟨z16, rfl, w16⟩, q16⟩ := FitsW.uncons q15
  obtain ⟨_, r17, rfl, ⟨z17, rfl, w17⟩, q17⟩ := FitsW.uncons q16
  obtain ⟨_, r18, rfl, ⟨z18, rfl, w18⟩, q18⟩ := FitsW.uncons q17
  obtain ⟨_, r19, rfl, ⟨z19, rfl, w19⟩, q19⟩ := FitsW.uncons q18
  have hn := FitsW.nil q19
  subst hn
  have b0 := bounds_u64 w0
  obtain ⟨n0, rfl⟩ := Int.eq_ofNat_of_zero_le b0.1
  have b1 := bounds_u64 w1
  obtain ⟨n1, rfl⟩ := Int.eq_ofNat_of_zero_le b1.1
  have b3 := bounds_u64 w3
  obtain ⟨n3, rfl⟩ := Int.eq_ofNat_of_zero_le b3.1
  have b4 := bounds_i64 w4
  have b5 := bounds_i64 w5
  have b6 := bounds_i64 w6
  have b8 := bounds_i64 w8
  have b9 := bounds_i64 w9
  have b12 := bounds_i64 w12
  have b13 := bounds_i64 w13
  have b14 := bounds_i64 w14
  have b15 := bounds_i64 w15
  have b16 := bounds_i64 w16
  have b17 := bounds_u64 w17
  obtain ⟨n17, rfl⟩ := Int.eq_ofNat_of_zero_le b17.1
  have b18 := bounds_u64 w18
  obtain ⟨n18, rfl⟩ := Int.eq_ofNat_of_zero_le b18.1
  have b19 := bounds_i64 w19
  exact ⟨⟨n0, n1, ⟨z2, n3, z4, z5, z6, z7⟩, z8, z9, z10, z11, z12, z13, z14, z15, ⟨z16, n17, n18⟩, z19⟩, rfl, ⟨(by show (n0 : Nat) < 18446744073709551616; have := b0.2; omega), (by show (n1 : Nat) < 18446744073709551616; have := b1.2; omega), (by show (n3 : Nat) < 18446744073709551616; have := b3.2; omega), b4, b5, b6, b8, b9, b12, b13, b14, b15, b16, (by show (n17 : Nat) < 18446744073709551616; have := b17.2; omega), (by show (n18 : Nat) < 18446744073709551616; have := b18.2; omega), b19⟩⟩
theorem opened {H : Type} {en : TypeId × Value → H} {W : World} {b base : Nat} {sp : Nat → Bool} {hd : Bool} {v : Value} {d : DataW H} {p : List MemPlace} (hv : Value.okWide Try.prog W .any base 36 v) (h : DataW.Trod en Try.prog W b sp hd 36 v d p) : ∃ x : Ses, v = x.val ∧ x.Ok := by
  obtain ⟨cs, rfl, hf⟩ := open_rec isRec hv h
  obtain ⟨x, rfl, hx⟩ := of_fits hf
  exact ⟨x, rfl, hx⟩
theorem isElem : Elem Try.prog 22 36 ks := ⟨isRec, Try.underlying22, by decide, by
  have h : ((Try.prog.info? 36).map fun i => (i.zero, i.size, decide (i.bytes ≤ 8000))) = some (some (.agg zero.enc.toArray), 20, true) := by kernel_rfl
  cases hi : Try.prog.info? 36 with
  | none => rw [hi] at h; cases h
  | some i =>
    rw [hi] at h
    simp only [Option.map_some, Option.some.injEq, Prod.mk.injEq, decide_eq_true_eq] at h
    exact ⟨i, _, rfl, h.1, h.2.1, rfl, h.2.2⟩⟩
/-- A slice of one. -/
theorem build_one (x : Ses) : filled 20 1 zero.enc.toArray [(0, x.val)] = some x.enc.toArray := by kernel_rfl
theorem info : ∃ i, Try.prog.info? 36 = some i ∧ i.zero = some (.agg zero.enc.toArray) ∧ i.size = 20 := by
  obtain ⟨i, z, h1, h2, h3, -, -⟩ := isElem.zero
  have h := zero_is
  rw [h1, Option.map_some, h2] at h
  injection h with h
  injection h with h
  exact ⟨i, h1, by rw [h2, h], h3⟩
theorem wpList_one {ops : Array Oper} {rest : List Oper} {o : Oper} {a : Act} {w : World} {Q : Exit → Act → World → Prop} (hgd : o.guard = none) (y : Operand) (ho : o.op = .buildSlice 22 1 #[(0, y)]) (x : Ses) (hy : a.eval y = x.val)
    (h : ∀ w', Below w.heap.size w w' → RowsAt w' (.slice (some ⟨w.heap.size, 0, none⟩) 1 1) 20 [x.enc] → w'.heap.size = w.heap.size + 1 → wpList Try.prog ops Q rest (a.put o.dst (.slice (some ⟨w.heap.size, 0, none⟩) 1 1)) w') : wpList Try.prog ops Q (o :: rest) a w := by
  obtain ⟨i, h1, h2, h3⟩ := info
  exact wpList_buildSlice hgd Try.underlying22 h1 h2 1 (by rw [h3]; decide) (by rw [h3]; decide) _ ho #[(0, x.val)] (by simp [hy]) x.enc.toArray (by rw [h3]; exact build_one x) fun w' b q z => h w' b (rows_one q (Nat.le_refl _)) z
theorem opened_all {H : Type} {en : TypeId × Value → H} {W : World} {b : Nat} {sp : Nat → Bool} {hd : Bool} {a : Option Addr} {len cap : Nat} {d : DataW H} {p : List MemPlace} (h : DataW.Trod en Try.prog W b sp hd 22 (.slice a len cap) d p) : ∃ l : List Ses, RowsAt W (.slice a len cap) 20 (l.map enc) ∧ ∀ x ∈ l, x.Ok := by
  obtain ⟨L, hL, hf⟩ := open_rows Try.underlying22 isRec h
  have hex : ∀ L : List (List Value), (∀ c ∈ L, FitsW ks c) → ∃ l : List Ses, L = l.map enc ∧ ∀ x ∈ l, x.Ok := by
    intro L
    induction L with
    | nil => exact fun _ => ⟨[], rfl, fun x hx => by cases hx⟩
    | cons c r ih =>
      intro hf
      obtain ⟨x, rfl, ox⟩ := of_fits (hf c (List.mem_cons_self ..))
      obtain ⟨l, rfl, ol⟩ := ih fun c hc => hf c (List.mem_cons_of_mem _ hc)
      exact ⟨x :: l, rfl, fun y hy => by rcases List.mem_cons.1 hy with rfl | h
                                         · exact ox
                                         · exact ol y h⟩
  obtain ⟨l, rfl, ol⟩ := hex L hf
  exact ⟨l, hL, ol⟩
theorem same (x y : Ses) : eqCells x.enc y.enc = decide (x = y) := by
  rw [Bool.eq_iff_iff, decide_eq_true_eq]
  constructor
  · intro h
    simp only [enc, eqCells, cellEq, Bool.and_eq_true, beq_iff_eq, Bool.and_true, ba_list] at h
    obtain ⟨h0, h1, h2, h3, h4, h5, h6, h7, h8, h9, h10, h11, h12, h13, h14, h15, h16, h17, h18, h19⟩ := h
    obtain ⟨a19, a20, ⟨a21, a22, a23, a24, a25, a26⟩, a27, a28, a29, a30, a31, a32, a33, a34, ⟨a35, a36, a37⟩, a38⟩ := x
    obtain ⟨b39, b40, ⟨b41, b42, b43, b44, b45, b46⟩, b47, b48, b49, b50, b51, b52, b53, b54, ⟨b55, b56, b57⟩, b58⟩ := y
    simp only at h0 h1 h2 h3 h4 h5 h6 h7 h8 h9 h10 h11 h12 h13 h14 h15 h16 h17 h18 h19
    have h0 := Int.ofNat.inj h0
    have h1 := Int.ofNat.inj h1
    have h3 := Int.ofNat.inj h3
    have h17 := Int.ofNat.inj h17
    have h18 := Int.ofNat.inj h18
    subst h0 h1 h2 h3 h4 h5 h6 h7 h8 h9 h10 h11 h12 h13 h14 h15 h16 h17 h18 h19
    rfl
  · rintro rfl
    exact eqCells_refl x.fits
theorem eq_run (x y : Ses) (w : World) : (binOp .eql 36 x.val y.val).run Try.prog w = .ok (.bool (decide (x = y))) w := by
  rw [← same]
  exact run_eq_rec isRec _ _ x.fits y.fits w
/-- In a block. -/
abbrev At (w : World) (g : Nat) (x : Ses) : Prop := Whole w g 36 x.enc.toArray
theorem At.cells {w : World} {g : Nat} {x : Ses} (h : At w g x) : w.cell? ⟨g, 0, none⟩ = some (.int .u64 (x.id : Int)) ∧ w.cell? ⟨g, 1, none⟩ = some (.int .u64 (x.nonce : Int)) ∧ w.cell? ⟨g, 2, none⟩ = some (.string ⟨x.peer.name.toArray⟩) ∧ w.cell? ⟨g, 3, none⟩ = some (.int .u64 (x.peer.id : Int)) ∧ w.cell? ⟨g, 4, none⟩ = some (.int .i64 x.peer.since) ∧ w.cell? ⟨g, 5, none⟩ = some (.int .i64 x.peer.till) ∧ w.cell? ⟨g, 6, none⟩ = some (.int .i64 x.peer.index) ∧ w.cell? ⟨g, 7, none⟩ = some (.string ⟨x.peer.tag.toArray⟩) ∧ w.cell? ⟨g, 8, none⟩ = some (.int .i64 x.role) ∧ w.cell? ⟨g, 9, none⟩ = some (.int .i64 x.state) ∧ w.cell? ⟨g, 10, none⟩ = some (.string ⟨x.send.toArray⟩) ∧ w.cell? ⟨g, 11, none⟩ = some (.string ⟨x.hear.toArray⟩) ∧ w.cell? ⟨g, 12, none⟩ = some (.int .i64 x.epoch) ∧ w.cell? ⟨g, 13, none⟩ = some (.int .i64 x.count) ∧ w.cell? ⟨g, 14, none⟩ = some (.int .i64 x.since) ∧ w.cell? ⟨g, 15, none⟩ = some (.int .i64 x.seq) ∧ w.cell? ⟨g, 16, none⟩ = some (.int .i64 x.seen.top) ∧ w.cell? ⟨g, 17, none⟩ = some (.int .u64 (x.seen.low : Int)) ∧ w.cell? ⟨g, 18, none⟩ = some (.int .u64 (x.seen.high : Int)) ∧ w.cell? ⟨g, 19, none⟩ = some (.int .i64 x.used) :=
  ⟨h.at_ 0, h.at_ 1, h.at_ 2, h.at_ 3, h.at_ 4, h.at_ 5, h.at_ 6, h.at_ 7, h.at_ 8, h.at_ 9, h.at_ 10, h.at_ 11, h.at_ 12, h.at_ 13, h.at_ 14, h.at_ 15, h.at_ 16, h.at_ 17, h.at_ 18, h.at_ 19⟩
theorem At.at_id {w : World} {g : Nat} {x : Ses} (h : At w g x) : w.cell? ⟨g, 0, none⟩ = some (.int .u64 (x.id : Int)) := h.at_ 0
theorem At.at_nonce {w : World} {g : Nat} {x : Ses} (h : At w g x) : w.cell? ⟨g, 1, none⟩ = some (.int .u64 (x.nonce : Int)) := h.at_ 1
theorem At.at_peer_name {w : World} {g : Nat} {x : Ses} (h : At w g x) : w.cell? ⟨g, 2, none⟩ = some (.string ⟨x.peer.name.toArray⟩) := h.at_ 2
theorem At.at_peer_id {w : World} {g : Nat} {x : Ses} (h : At w g x) : w.cell? ⟨g, 3, none⟩ = some (.int .u64 (x.peer.id : Int)) := h.at_ 3
theorem At.at_peer_since {w : World} {g : Nat} {x : Ses} (h : At w g x) : w.cell? ⟨g, 4, none⟩ = some (.int .i64 x.peer.since) := h.at_ 4
theorem At.at_peer_till {w : World} {g : Nat} {x : Ses} (h : At w g x) : w.cell? ⟨g, 5, none⟩ = some (.int .i64 x.peer.till) := h.at_ 5
theorem At.at_peer_index {w : World} {g : Nat} {x : Ses} (h : At w g x) : w.cell? ⟨g, 6, none⟩ = some (.int .i64 x.peer.index) := h.at_ 6
theorem At.at_peer_tag {w : World} {g : Nat} {x : Ses} (h : At w g x) : w.cell? ⟨g, 7, none⟩ = some (.string ⟨x.peer.tag.toArray⟩) := h.at_ 7
theorem At.at_role {w : World} {g : Nat} {x : Ses} (h : At w g x) : w.cell? ⟨g, 8, none⟩ = some (.int .i64 x.role) := h.at_ 8
theorem At.at_state {w : World} {g : Nat} {x : Ses} (h : At w g x) : w.cell? ⟨g, 9, none⟩ = some (.int .i64 x.state) := h.at_ 9
theorem At.at_send {w : World} {g : Nat} {x : Ses} (h : At w g x) : w.cell? ⟨g, 10, none⟩ = some (.string ⟨x.send.toArray⟩) := h.at_ 10
theorem At.at_hear {w : World} {g : Nat} {x : Ses} (h : At w g x) : w.cell? ⟨g, 11, none⟩ = some (.string ⟨x.hear.toArray⟩) := h.at_ 11
theorem At.at_epoch {w : World} {g : Nat} {x : Ses} (h : At w g x) : w.cell? ⟨g, 12, none⟩ = some (.int .i64 x.epoch) := h.at_ 12
theorem At.at_count {w : World} {g : Nat} {x : Ses} (h : At w g x) : w.cell? ⟨g, 13, none⟩ = some (.int .i64 x.count) := h.at_ 13
theorem At.at_since {w : World} {g : Nat} {x : Ses} (h : At w g x) : w.cell? ⟨g, 14, none⟩ = some (.int .i64 x.since) := h.at_ 14
theorem At.at_seq {w : World} {g : Nat} {x : Ses} (h : At w g x) : w.cell? ⟨g, 15, none⟩ = some (.int .i64 x.seq) := h.at_ 15
theorem At.at_seen_top {w : World} {g : Nat} {x : Ses} (h : At w g x) : w.cell? ⟨g, 16, none⟩ = some (.int .i64 x.seen.top) := h.at_ 16
theorem At.at_seen_low {w : World} {g : Nat} {x : Ses} (h : At w g x) : w.cell? ⟨g, 17, none⟩ = some (.int .u64 (x.seen.low : Int)) := h.at_ 17
theorem At.at_seen_high {w : World} {g : Nat} {x : Ses} (h : At w g x) : w.cell? ⟨g, 18, none⟩ = some (.int .u64 (x.seen.high : Int)) := h.at_ 18
theorem At.at_used {w : World} {g : Nat} {x : Ses} (h : At w g x) : w.cell? ⟨g, 19, none⟩ = some (.int .i64 x.used) := h.at_ 19
theorem At.part_peer {w : World} {g : Nat} {x : Ses} (h : At w g x) : ∀ j v, x.peer.enc[j]? = some v → w.cell? ⟨g, 2 + j, none⟩ = some v := Whole.part (a := [.int .u64 (x.id : Int), .int .u64 (x.nonce : Int)]) (b := x.peer.enc) (c := [.int .i64 x.role, .int .i64 x.state, .string ⟨x.send.toArray⟩, .string ⟨x.hear.toArray⟩, .int .i64 x.epoch, .int .i64 x.count, .int .i64 x.since, .int .i64 x.seq, .int .i64 x.seen.top, .int .u64 (x.seen.low : Int), .int .u64 (x.seen.high : Int), .int .i64 x.used]) h
theorem At.part_seen {w : World} {g : Nat} {x : Ses} (h : At w g x) : ∀ j v, x.seen.enc[j]? = some v → w.cell? ⟨g, 16 + j, none⟩ = some v := Whole.part (a := [.int .u64 (x.id : Int), .int .u64 (x.nonce : Int), .string ⟨x.peer.name.toArray⟩, .int .u64 (x.peer.id : Int), .int .i64 x.peer.since, .int .i64 x.peer.till, .int .i64 x.peer.index, .string ⟨x.peer.tag.toArray⟩, .int .i64 x.role, .int .i64 x.state, .string ⟨x.send.toArray⟩, .string ⟨x.hear.toArray⟩, .int .i64 x.epoch, .int .i64 x.count, .int .i64 x.since, .int .i64 x.seq]) (b := x.seen.enc) (c := [.int .i64 x.used]) h
theorem At.set_id {w : World} {g : Nat} {x : Ses} (h : At w g x) (v : Nat) : At (w.setCell ⟨g, 0, none⟩ (.int .u64 (v : Int))) g { x with id := v } := h.stored 0 _
theorem At.set_nonce {w : World} {g : Nat} {x : Ses} (h : At w g x) (v : Nat) : At (w.setCell ⟨g, 1, none⟩ (.int .u64 (v : Int))) g { x with nonce := v } := h.stored 1 _
theorem At.set_peer_name {w : World} {g : Nat} {x : Ses} (h : At w g x) (v : List UInt8) : At (w.setCell ⟨g, 2, none⟩ (.string ⟨v.toArray⟩)) g { x with peer := { x.peer with name := v } } := h.stored 2 _
theorem At.set_peer_id {w : World} {g : Nat} {x : Ses} (h : At w g x) (v : Nat) : At (w.setCell ⟨g, 3, none⟩ (.int .u64 (v : Int))) g { x with peer := { x.peer with id := v } } := h.stored 3 _
theorem At.set_peer_since {w : World} {g : Nat} {x : Ses} (h : At w g x) (v : Int) : At (w.setCell ⟨g, 4, none⟩ (.int .i64 v)) g { x with peer := { x.peer with since := v } } := h.stored 4 _
theorem At.set_peer_till {w : World} {g : Nat} {x : Ses} (h : At w g x) (v : Int) : At (w.setCell ⟨g, 5, none⟩ (.int .i64 v)) g { x with peer := { x.peer with till := v } } := h.stored 5 _
theorem At.set_peer_index {w : World} {g : Nat} {x : Ses} (h : At w g x) (v : Int) : At (w.setCell ⟨g, 6, none⟩ (.int .i64 v)) g { x with peer := { x.peer with index := v } } := h.stored 6 _
theorem At.set_peer_tag {w : World} {g : Nat} {x : Ses} (h : At w g x) (v : List UInt8) : At (w.setCell ⟨g, 7, none⟩ (.string ⟨v.toArray⟩)) g { x with peer := { x.peer with tag := v } } := h.stored 7 _
theorem At.set_role {w : World} {g : Nat} {x : Ses} (h : At w g x) (v : Int) : At (w.setCell ⟨g, 8, none⟩ (.int .i64 v)) g { x with role := v } := h.stored 8 _
theorem At.set_state {w : World} {g : Nat} {x : Ses} (h : At w g x) (v : Int) : At (w.setCell ⟨g, 9, none⟩ (.int .i64 v)) g { x with state := v } := h.stored 9 _
theorem At.set_send {w : World} {g : Nat} {x : Ses} (h : At w g x) (v : List UInt8) : At (w.setCell ⟨g, 10, none⟩ (.string ⟨v.toArray⟩)) g { x with send := v } := h.stored 10 _
theorem At.set_hear {w : World} {g : Nat} {x : Ses} (h : At w g x) (v : List UInt8) : At (w.setCell ⟨g, 11, none⟩ (.string ⟨v.toArray⟩)) g { x with hear := v } := h.stored 11 _
theorem At.set_epoch {w : World} {g : Nat} {x : Ses} (h : At w g x) (v : Int) : At (w.setCell ⟨g, 12, none⟩ (.int .i64 v)) g { x with epoch := v } := h.stored 12 _
theorem At.set_count {w : World} {g : Nat} {x : Ses} (h : At w g x) (v : Int) : At (w.setCell ⟨g, 13, none⟩ (.int .i64 v)) g { x with count := v } := h.stored 13 _
theorem At.set_since {w : World} {g : Nat} {x : Ses} (h : At w g x) (v : Int) : At (w.setCell ⟨g, 14, none⟩ (.int .i64 v)) g { x with since := v } := h.stored 14 _
theorem At.set_seq {w : World} {g : Nat} {x : Ses} (h : At w g x) (v : Int) : At (w.setCell ⟨g, 15, none⟩ (.int .i64 v)) g { x with seq := v } := h.stored 15 _
theorem At.set_seen_top {w : World} {g : Nat} {x : Ses} (h : At w g x) (v : Int) : At (w.setCell ⟨g, 16, none⟩ (.int .i64 v)) g { x with seen := { x.seen with top := v } } := h.stored 16 _
theorem At.set_seen_low {w : World} {g : Nat} {x : Ses} (h : At w g x) (v : Nat) : At (w.setCell ⟨g, 17, none⟩ (.int .u64 (v : Int))) g { x with seen := { x.seen with low := v } } := h.stored 17 _
theorem At.set_seen_high {w : World} {g : Nat} {x : Ses} (h : At w g x) (v : Nat) : At (w.setCell ⟨g, 18, none⟩ (.int .u64 (v : Int))) g { x with seen := { x.seen with high := v } } := h.stored 18 _
theorem At.set_used {w : World} {g : Nat} {x : Ses} (h : At w g x) (v : Int) : At (w.setCell ⟨g, 19, none⟩ (.int .i64 v)) g { x with used := v } := h.stored 19 _
end Ses
end Go.Proofs.Ytjohlnpalcmhbaa
