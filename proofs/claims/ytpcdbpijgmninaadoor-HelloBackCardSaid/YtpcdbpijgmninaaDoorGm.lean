/- api.Welcome as a structure: its cells, opened, in a block. (Written by tools/mkrec.py.) Layer 17 as mathematics: what a tag is of, what is written, what is read. It speaks of no program. -/
import Derived.Test.YtpcdbpijgmninaaDoorGj
import Derived.Test.YtpcdbpijgmninaaDoorGl
import Derived.Test.YtpcdbpijgmninaaDoorGb
namespace Go.Proofs.YtpcdbpijgmninaaDoor
set_option maxRecDepth 100000
open Go.RowKit Go.ChangeShapes Go.WideShapes Go.ChangeAt

structure Wel where
  fst : Nat
  snd : Nat
  entry : Ent
  tag : List UInt8
deriving DecidableEq
namespace Wel
def enc (x : Wel) : List Value := [.int .u64 (x.fst : Int), .int .u64 (x.snd : Int), .string ⟨x.entry.name.toArray⟩, .int .u64 (x.entry.id : Int), .int .i64 x.entry.since, .int .i64 x.entry.till, .int .i64 x.entry.index, .string ⟨x.entry.tag.toArray⟩, .string ⟨x.tag.toArray⟩]
def ks : List CK := [.int .u64, .int .u64, .str, .int .u64, .int .i64, .int .i64, .int .i64, .str, .str]
abbrev val (x : Wel) : Value := .agg x.enc.toArray
theorem len (x : Wel) : x.enc.length = 9 := rfl
theorem fits (x : Wel) : Fits ks x.enc := ⟨⟨_, rfl⟩, ⟨_, rfl⟩, ⟨_, rfl⟩, ⟨_, rfl⟩, ⟨_, rfl⟩, ⟨_, rfl⟩, ⟨_, rfl⟩, ⟨_, rfl⟩, ⟨_, rfl⟩, trivial⟩
theorem one (x : Wel) : x.enc.toArray.all (·.oneCell') = true := by simp [enc, Value.oneCell']
theorem isRec : Rec Tryd.prog 28 ks := ⟨by kernel_rfl, by kernel_rfl, by kernel_rfl⟩
theorem size (x : Wel) : (Tryd.prog.info? 28).map (·.size) = some x.enc.toArray.size := by
  have h : (Tryd.prog.info? 28).map (·.size) = some 9 := by kernel_rfl
  exact h
def zero : Wel := ⟨0, 0, Ent.zero, []⟩
theorem zero_is : (Tryd.prog.info? 28).map (·.zero) = some (some (.agg zero.enc.toArray)) := by kernel_rfl
/-- Its numbers are of their types. -/
structure Ok (x : Wel) : Prop where
  fst_ok : x.fst < 18446744073709551616
  snd_ok : x.snd < 18446744073709551616
  entry_id_ok : x.entry.id < 18446744073709551616
  entry_since_ok : -9223372036854775808 ≤ x.entry.since ∧ x.entry.since ≤ 9223372036854775807
  entry_till_ok : -9223372036854775808 ≤ x.entry.till ∧ x.entry.till ≤ 9223372036854775807
  entry_index_ok : -9223372036854775808 ≤ x.entry.index ∧ x.entry.index ≤ 9223372036854775807
theorem of_fits {cs : List Value} (h : FitsW ks cs) : ∃ x : Wel, cs = x.enc ∧ x.Ok := by
  obtain ⟨_, r0, rfl, ⟨z0, rfl, w0⟩, q0⟩ := FitsW.uncons h
  obtain ⟨_, r1, rfl, ⟨z1, rfl, w1⟩, q1⟩ := FitsW.uncons q0
  obtain ⟨_, r2, rfl, ⟨z2, rfl⟩, q2⟩ := FitsW.uncons q1
  obtain ⟨_, r3, rfl, ⟨z3, rfl, w3⟩, q3⟩ := FitsW.uncons q2
  obtain ⟨_, r4, rfl, ⟨z4, rfl, w4⟩, q4⟩ := FitsW.uncons q3
  obtain ⟨_, r5, rfl, ⟨z5, rfl, w5⟩, q5⟩ := FitsW.uncons q4
  obtain ⟨_, r6, rfl, ⟨z6, rfl, w6⟩, q6⟩ := FitsW.uncons q5
  obtain ⟨_, r7, rfl, ⟨z7, rfl⟩, q7⟩ := FitsW.uncons q6
  obtain ⟨_, r8, rfl, ⟨z8, rfl⟩, q8⟩ := FitsW.uncons q7
  have hn := FitsW.nil q8
  subst hn
  have b0 := bounds_u64 w0
  obtain ⟨n0, rfl⟩ := Int.eq_ofNat_of_zero_le b0.1
  have b1 := bounds_u64 w1
  obtain ⟨n1, rfl⟩ := Int.eq_ofNat_of_zero_le b1.1
  have b3 := bounds_u64 w3
  obtain ⟨n3, rfl⟩ := Int.eq_ofNat_of_zero_le b3.1
  have b4 := bounds_i64 w4
  have b5 := bounds_i64 w5
  have b6 := bounds_i64 w6
  exact ⟨⟨n0, n1, ⟨z2, n3, z4, z5, z6, z7⟩, z8⟩, rfl, ⟨(by show (n0 : Nat) < 18446744073709551616; have := b0.2; omega), (by show (n1 : Nat) < 18446744073709551616; have := b1.2; omega), (by show (n3 : Nat) < 18446744073709551616; have := b3.2; omega), b4, b5, b6⟩⟩
theorem opened {H : Type} {en : TypeId × Value → H} {W : World} {b base : Nat} {sp : Nat → Bool} {hd : Bool} {v : Value} {d : DataW H} {p : List MemPlace} (hv : Value.okWide Tryd.prog W .any base 28 v) (h : DataW.Trod en Tryd.prog W b sp hd 28 v d p) : ∃ x : Wel, v = x.val ∧ x.Ok := by
  obtain ⟨cs, rfl, hf⟩ := open_rec isRec hv h
  obtain ⟨x, rfl, hx⟩ := of_fits hf
  exact ⟨x, rfl, hx⟩
theorem same (x y : Wel) : eqCells x.enc y.enc = decide (x = y) := by
  rw [Bool.eq_iff_iff, decide_eq_true_eq]
  constructor
  · intro h
    simp only [enc, eqCells, cellEq, Bool.and_eq_true, beq_iff_eq, Bool.and_true, ba_list] at h
    obtain ⟨h0, h1, h2, h3, h4, h5, h6, h7, h8⟩ := h
    obtain ⟨a131, a132, ⟨a133, a134, a135, a136, a137, a138⟩, a139⟩ := x
    obtain ⟨b140, b141, ⟨b142, b143, b144, b145, b146, b147⟩, b148⟩ := y
    simp only at h0 h1 h2 h3 h4 h5 h6 h7 h8
    have h0 := Int.ofNat.inj h0
    have h1 := Int.ofNat.inj h1
    have h3 := Int.ofNat.inj h3
    subst h0 h1 h2 h3 h4 h5 h6 h7 h8
    rfl
  · rintro rfl
    exact eqCells_refl x.fits
theorem eq_run (x y : Wel) (w : World) : (binOp .eql 28 x.val y.val).run Tryd.prog w = .ok (.bool (decide (x = y))) w := by
  rw [← same]
  exact run_eq_rec isRec _ _ x.fits y.fits w
/-- In a block. -/
abbrev At (w : World) (g : Nat) (x : Wel) : Prop := Whole w g 28 x.enc.toArray
theorem At.cells {w : World} {g : Nat} {x : Wel} (h : At w g x) : w.cell? ⟨g, 0, none⟩ = some (.int .u64 (x.fst : Int)) ∧ w.cell? ⟨g, 1, none⟩ = some (.int .u64 (x.snd : Int)) ∧ w.cell? ⟨g, 2, none⟩ = some (.string ⟨x.entry.name.toArray⟩) ∧ w.cell? ⟨g, 3, none⟩ = some (.int .u64 (x.entry.id : Int)) ∧ w.cell? ⟨g, 4, none⟩ = some (.int .i64 x.entry.since) ∧ w.cell? ⟨g, 5, none⟩ = some (.int .i64 x.entry.till) ∧ w.cell? ⟨g, 6, none⟩ = some (.int .i64 x.entry.index) ∧ w.cell? ⟨g, 7, none⟩ = some (.string ⟨x.entry.tag.toArray⟩) ∧ w.cell? ⟨g, 8, none⟩ = some (.string ⟨x.tag.toArray⟩) :=
  ⟨h.at_ 0, h.at_ 1, h.at_ 2, h.at_ 3, h.at_ 4, h.at_ 5, h.at_ 6, h.at_ 7, h.at_ 8⟩
theorem At.at_fst {w : World} {g : Nat} {x : Wel} (h : At w g x) : w.cell? ⟨g, 0, none⟩ = some (.int .u64 (x.fst : Int)) := h.at_ 0
theorem At.at_snd {w : World} {g : Nat} {x : Wel} (h : At w g x) : w.cell? ⟨g, 1, none⟩ = some (.int .u64 (x.snd : Int)) := h.at_ 1
theorem At.at_entry_name {w : World} {g : Nat} {x : Wel} (h : At w g x) : w.cell? ⟨g, 2, none⟩ = some (.string ⟨x.entry.name.toArray⟩) := h.at_ 2
theorem At.at_entry_id {w : World} {g : Nat} {x : Wel} (h : At w g x) : w.cell? ⟨g, 3, none⟩ = some (.int .u64 (x.entry.id : Int)) := h.at_ 3
theorem At.at_entry_since {w : World} {g : Nat} {x : Wel} (h : At w g x) : w.cell? ⟨g, 4, none⟩ = some (.int .i64 x.entry.since) := h.at_ 4
theorem At.at_entry_till {w : World} {g : Nat} {x : Wel} (h : At w g x) : w.cell? ⟨g, 5, none⟩ = some (.int .i64 x.entry.till) := h.at_ 5
theorem At.at_entry_index {w : World} {g : Nat} {x : Wel} (h : At w g x) : w.cell? ⟨g, 6, none⟩ = some (.int .i64 x.entry.index) := h.at_ 6
theorem At.at_entry_tag {w : World} {g : Nat} {x : Wel} (h : At w g x) : w.cell? ⟨g, 7, none⟩ = some (.string ⟨x.entry.tag.toArray⟩) := h.at_ 7
theorem At.at_tag {w : World} {g : Nat} {x : Wel} (h : At w g x) : w.cell? ⟨g, 8, none⟩ = some (.string ⟨x.tag.toArray⟩) := h.at_ 8
theorem At.part_entry {w : World} {g : Nat} {x : Wel} (h : At w g x) : ∀ j v, x.entry.enc[j]? = some v → w.cell? ⟨g, 2 + j, none⟩ = some v := Whole.part (a := [.int .u64 (x.fst : Int), .int .u64 (x.snd : Int)]) (b := x.entry.enc) (c := [.string ⟨x.tag.toArray⟩]) h
theorem At.set_fst {w : World} {g : Nat} {x : Wel} (h : At w g x) (v : Nat) : At (w.setCell ⟨g, 0, none⟩ (.int .u64 (v : Int))) g { x with fst := v } := h.stored 0 _
theorem At.set_snd {w : World} {g : Nat} {x : Wel} (h : At w g x) (v : Nat) : At (w.setCell ⟨g, 1, none⟩ (.int .u64 (v : Int))) g { x with snd := v } := h.stored 1 _
theorem At.set_entry_name {w : World} {g : Nat} {x : Wel} (h : At w g x) (v : List UInt8) : At (w.setCell ⟨g, 2, none⟩ (.string ⟨v.toArray⟩)) g { x with entry := { x.entry with name := v } } := h.stored 2 _
theorem At.set_entry_id {w : World} {g : Nat} {x : Wel} (h : At w g x) (v : Nat) : At (w.setCell ⟨g, 3, none⟩ (.int .u64 (v : Int))) g { x with entry := { x.entry with id := v } } := h.stored 3 _
theorem At.set_entry_since {w : World} {g : Nat} {x : Wel} (h : At w g x) (v : Int) : At (w.setCell ⟨g, 4, none⟩ (.int .i64 v)) g { x with entry := { x.entry with since := v } } := h.stored 4 _
theorem At.set_entry_till {w : World} {g : Nat} {x : Wel} (h : At w g x) (v : Int) : At (w.setCell ⟨g, 5, none⟩ (.int .i64 v)) g { x with entry := { x.entry with till := v } } := h.stored 5 _
theorem At.set_entry_index {w : World} {g : Nat} {x : Wel} (h : At w g x) (v : Int) : At (w.setCell ⟨g, 6, none⟩ (.int .i64 v)) g { x with entry := { x.entry with index := v } } := h.stored 6 _
theorem At.set_entry_tag {w : World} {g : Nat} {x : Wel} (h : At w g x) (v : List UInt8) : At (w.setCell ⟨g, 7, none⟩ (.string ⟨v.toArray⟩)) g { x with entry := { x.entry with tag := v } } := h.stored 7 _
theorem At.set_tag {w : World} {g : Nat} {x : Wel} (h : At w g x) (v : List UInt8) : At (w.setCell ⟨g, 8, none⟩ (.string ⟨v.toArray⟩)) g { x with tag := v } := h.stored 8 _
end Wel
end Go.Proofs.YtpcdbpijgmninaaDoor

namespace Go.Proofs.YtpcdbpijgmninaaDoor
set_option maxRecDepth 100000

/-- A text, cut to what a length can tell. -/
def cutL (l : List UInt8) : List UInt8 := l.take 65535
theorem cutL_small {l : List UInt8} (h : l.length ≤ 65535) : cutL l = l := List.take_of_length_le h
theorem cutL_length (l : List UInt8) : (cutL l).length ≤ 65535 := by rw [cutL, List.length_take]; omega
theorem cutL_less (l : List UInt8) : (cutL l).length ≤ l.length := by rw [cutL, List.length_take]; omega
theorem cut_text (l : List UInt8) : cutText ⟨l.toArray⟩ = ⟨(cutL l).toArray⟩ := by
  have hs : (⟨l.toArray⟩ : ByteArray).size = l.length := rfl
  rw [cutText, ext_take, cutL, hs]
  by_cases h : l.length ≤ 65535
  · rw [Nat.min_eq_left h, List.take_of_length_le (Nat.le_refl _), List.take_of_length_le h]
  · rw [Nat.min_eq_right (by omega)]
def txt (l : List UInt8) : List UInt8 := nameE (cutL l)
theorem txt_small {l : List UInt8} (h : l.length ≤ 65535) : txt l = nameE l := by rw [txt, cutL_small h]
theorem txt_length (l : List UInt8) : (txt l).length = 2 + (cutL l).length := nameE_length _
theorem txt_most (l : List UInt8) : (txt l).length ≤ 65537 := by rw [txt_length]; have := cutL_length l; omega
/-- An entry whose name is cut. -/
def cutE (a : Ent) : Ent := { a with name := cutL a.name }
theorem cutE_small {a : Ent} (h : a.name.length ≤ 65535) : cutE a = a := by rw [cutE, cutL_small h]
theorem cutE_body (a : Ent) : (bodyL (cutE a)).length ≤ 65555 := by
  rw [bodyL_length]
  have := cutL_length a.name
  show 20 + (cutL a.name).length ≤ _
  omega
/-- An entry's text. -/
def textE (a : Ent) : List UInt8 := txt (bytesE (cutE a))
theorem textE_most (a : Ent) : (textE a).length ≤ 65537 := txt_most _
theorem bytesE_length (a : Ent) : (bytesE a).length = 20 + a.name.length + a.tag.length := by rw [bytesE, List.length_append, bodyL_length]
theorem textE_small {a : Ent} (hn : a.name.length ≤ 1000) (ht : a.tag.length ≤ 1000) : textE a = nameE (bytesE a) := by
  rw [textE, cutE_small (by omega), txt_small (by rw [bytesE_length]; omega)]
theorem textE_less {a : Ent} (hn : a.name.length ≤ 1000) (ht : a.tag.length ≤ 1000) : (textE a).length ≤ 2022 := by
  rw [textE_small hn ht, nameE_length, bytesE_length]; omega

def helloHead : List UInt8 := [99, 97, 114, 99, 97, 110, 101, 116, 32, 104, 101, 108, 108, 111]
def welcomeHead : List UInt8 := [99, 97, 114, 99, 97, 110, 101, 116, 32, 119, 101, 108, 99, 111, 109, 101]
/-- What a hello says, but for its tag. -/
def greetP (d : List UInt8) (n : Nat) (a : Ent) : List UInt8 := txt d ++ be 8 n ++ textE a
theorem greetP_most (d : List UInt8) (n : Nat) (a : Ent) (hd : d.length ≤ 300) : (greetP d n a).length ≤ 65847 := by
  have h1 := textE_most a
  have h2 := cutL_less d
  simp only [greetP, List.length_append, txt_length, be_length]
  omega
theorem greetP_less (d : List UInt8) (n : Nat) (a : Ent) (hd : d.length ≤ 300) (hn : a.name.length ≤ 1000) (ht : a.tag.length ≤ 1000) : (greetP d n a).length ≤ 2332 := by
  have h1 := textE_less hn ht
  have h2 := cutL_less d
  simp only [greetP, List.length_append, txt_length, be_length]
  omega
def greetT (d : List UInt8) (n : Nat) (a : Ent) : List UInt8 := helloHead ++ greetP d n a
def welcT (f s : Nat) (a b : Ent) : List UInt8 := welcomeHead ++ be 8 f ++ be 8 s ++ textE a ++ textE b
theorem welcT_less (f s : Nat) (a b : Ent) (hn : a.name.length ≤ 1000) (ht : a.tag.length ≤ 1000) (kn : b.name.length ≤ 1000) (kt : b.tag.length ≤ 1000) : (welcT f s a b).length ≤ 4076 := by
  have h1 := textE_less hn ht
  have h2 := textE_less kn kt
  simp only [welcT, List.length_append, be_length, welcomeHead, List.length_cons, List.length_nil]
  omega
def greetH (k d : List UInt8) (n : Nat) (a : Ent) : Hel := ⟨d, n, a, macL k (greetT d n a)⟩
def answerW (k : List UInt8) (h : Hel) (s : Nat) (b : Ent) : Wel := ⟨h.nonce, s, b, macL k (welcT h.nonce s h.entry b)⟩
def checksB (k : List UInt8) (h : Hel) : Bool := decide (macL k (greetT h.dest h.nonce h.entry) = h.tag)
def agreesB (k : List UInt8) (w : Wel) (a : Ent) : Bool := decide (macL k (welcT w.fst w.snd a w.entry) = w.tag)
theorem checks_eq (k : List UInt8) (h : Hel) : decide (greetH k h.dest h.nonce h.entry = h) = checksB k h := by
  obtain ⟨d, n, a, t⟩ := h
  simp [greetH, checksB]
theorem agrees_eq (k : List UInt8) (w : Wel) (a : Ent) (d t : List UInt8) : decide (answerW k ⟨d, w.fst, a, t⟩ w.snd w.entry = w) = agreesB k w a := by
  obtain ⟨f, s, b, u⟩ := w
  simp [answerW, agreesB]

theorem greetH_tag (k d : List UInt8) (n : Nat) (a : Ent) : (greetH k d n a).tag = macL k (greetT d n a) := rfl
theorem greetH_tag_length (k d : List UInt8) (n : Nat) (a : Ent) : (greetH k d n a).tag.length = 32 := macL_length _ _
theorem answerW_tag_length (k : List UInt8) (h : Hel) (s : Nat) (b : Ent) : (answerW k h s b).tag.length = 32 := macL_length _ _
theorem checks_greet (k d : List UInt8) (n : Nat) (a : Ent) : checksB k (greetH k d n a) = true := decide_eq_true rfl
theorem agrees_answer (k : List UInt8) (h : Hel) (s : Nat) (b : Ent) : agreesB k (answerW k h s b) h.entry = true := decide_eq_true rfl
theorem checks_other (k l d : List UInt8) (n : Nat) (a : Ent) : checksB l (greetH k d n a) = decide (macL l (greetT d n a) = macL k (greetT d n a)) := rfl
/-- Any other tag is none. -/
theorem checks_tag (k d t : List UInt8) (n : Nat) (a : Ent) : checksB k ⟨d, n, a, t⟩ = decide (macL k (greetT d n a) = t) := rfl
theorem agrees_tag (k t : List UInt8) (f s : Nat) (a b : Ent) : agreesB k ⟨f, s, b, t⟩ a = decide (macL k (welcT f s a b) = t) := rfl

/-- May it be? -/
def rightH (h : Hel) : Bool := nameB h.dest && decide (h.nonce ≠ 0) && entR h.entry && decide (h.tag.length = 32)
def rightW (w : Wel) : Bool := decide (w.fst ≠ 0) && decide (w.snd ≠ 0) && entR w.entry && decide (w.tag.length = 32)
theorem rightH_parts {h : Hel} (q : rightH h = true) : nameB h.dest = true ∧ h.nonce ≠ 0 ∧ entR h.entry = true ∧ h.tag.length = 32 := by
  simp only [rightH, Bool.and_eq_true, decide_eq_true_eq] at q
  exact ⟨q.1.1.1, q.1.1.2, q.1.2, q.2⟩
theorem rightW_parts {w : Wel} (q : rightW w = true) : w.fst ≠ 0 ∧ w.snd ≠ 0 ∧ entR w.entry = true ∧ w.tag.length = 32 := by
  simp only [rightW, Bool.and_eq_true, decide_eq_true_eq] at q
  exact ⟨q.1.1.1, q.1.1.2, q.1.2, q.2⟩
def helloB (h : Hel) : List UInt8 := [1] ++ greetP h.dest h.nonce h.entry ++ h.tag
def welcB (w : Wel) : List UInt8 := [2] ++ be 8 w.fst ++ be 8 w.snd ++ textE w.entry ++ w.tag
def resetB (id : Nat) : List UInt8 := [4] ++ be 8 id
theorem be_one (k : Nat) (h : k < 256) : be 1 k = [UInt8.ofNat k] := by
  simp [be, beTo, beAt, Nat.mod_eq_of_lt h]

/-- A packet's kind. -/
def kindB : List UInt8 → Int
  | [] => 0
  | c :: _ => if 1 ≤ c.toNat ∧ c.toNat ≤ 4 then (c.toNat : Int) else 0
theorem kind_cons {b : List UInt8} {k : Int} (h : kindB b = k) (hk : k ≠ 0) : ∃ c r, b = c :: r ∧ (c.toNat : Int) = k := by
  cases b with
  | nil => exact absurd h.symm hk
  | cons c r =>
    refine ⟨c, r, rfl, ?_⟩
    rw [kindB] at h
    split at h
    · exact h
    · exact absurd h.symm hk

/-- What is read of a hello. -/
def ht1 (b : List UInt8) : RS := textS ⟨b.drop 1, 0⟩ 16
def ht2 (b : List UInt8) : RS := rawS (ht1 b) 8
def ht3 (b : List UInt8) : RS := textS (ht2 b) 128
def ht4 (b : List UInt8) : RS := rawS (ht3 b) 32
def takeHP (b : List UInt8) : Hel := ⟨textO ⟨b.drop 1, 0⟩ 16, numO (ht1 b) 8, readE (textO (ht2 b) 128), rawO (ht3 b) 32⟩
def takeHX (b : List UInt8) : Int := if kindB b ≠ 1 then 13 else if endE (ht4 b) ≠ 0 then endE (ht4 b) else if rightH (takeHP b) = true then 0 else 11
def takeH (b : List UInt8) : Hel := if takeHX b = 0 then takeHP b else Hel.zero
/-- .. of a welcome. -/
def wt1 (b : List UInt8) : RS := rawS ⟨b.drop 1, 0⟩ 8
def wt2 (b : List UInt8) : RS := rawS (wt1 b) 8
def wt3 (b : List UInt8) : RS := textS (wt2 b) 128
def wt4 (b : List UInt8) : RS := rawS (wt3 b) 32
def takeWP (b : List UInt8) : Wel := ⟨numO ⟨b.drop 1, 0⟩ 8, numO (wt1 b) 8, readE (textO (wt2 b) 128), rawO (wt3 b) 32⟩
def takeWX (b : List UInt8) : Int := if kindB b ≠ 2 then 13 else if endE (wt4 b) ≠ 0 then endE (wt4 b) else if rightW (takeWP b) = true then 0 else 11
def takeW (b : List UInt8) : Wel := if takeWX b = 0 then takeWP b else Wel.zero
/-- .. of a reset. -/
def takeRX (b : List UInt8) : Int := if kindB b ≠ 4 then 13 else if endE (wt1 b) ≠ 0 then endE (wt1 b) else if numO ⟨b.drop 1, 0⟩ 8 = 0 then 11 else 0
def takeR (b : List UInt8) : Nat := if takeRX b = 0 then numO ⟨b.drop 1, 0⟩ 8 else 0

theorem entR_zero : entR ent0 = false := by decide
theorem read_none {t : List UInt8} (h : readX t ≠ 0) : readE t = ent0 := by rw [readE, if_neg h]

/-- What is put is taken. -/
theorem takeH_back (h : Hel) (q : rightH h = true) (hn : h.nonce < 18446744073709551616) (hi : h.entry.id < 18446744073709551616) : takeHX (helloB h) = 0 ∧ takeH (helloB h) = h ∧ kindB (helloB h) = 1 := by
  obtain ⟨q1, q2, q3, q4⟩ := rightH_parts q
  obtain ⟨d, n, a, t⟩ := h
  have e1 := name_short q1
  obtain ⟨p1, p2, -⟩ := entR_parts q3
  have e2 := name_short p1
  simp only at q1 q2 q3 q4 hn hi e1 e2 p2
  have hd : (helloB ⟨d, n, a, t⟩).drop 1 = nameE d ++ (be 8 n ++ (nameE (bytesE a) ++ (t ++ []))) := by
    rw [helloB, greetP, txt_small (by simp only; omega), textE_small (by simp only; omega) (by simp only; omega)]
    simp
  have hk : kindB (helloB ⟨d, n, a, t⟩) = 1 := by rw [helloB]; rfl
  obtain ⟨a1, a2⟩ := text_put d (be 8 n ++ (nameE (bytesE a) ++ (t ++ []))) 16 e1 (by omega)
  obtain ⟨b1, b2⟩ := num_put 8 n (nameE (bytesE a) ++ (t ++ [])) (by simpa using hn)
  obtain ⟨c1, c2⟩ := text_put (bytesE a) (t ++ []) 128 (by rw [bytesE_length]; omega) (by rw [bytesE_length]; omega)
  obtain ⟨d1, d2⟩ := raw_put t [] 32 q4.symm
  have s1 : ht1 (helloB ⟨d, n, a, t⟩) = ⟨be 8 n ++ (nameE (bytesE a) ++ (t ++ [])), 0⟩ := by rw [ht1, hd]; exact a2
  have s2 : ht2 (helloB ⟨d, n, a, t⟩) = ⟨nameE (bytesE a) ++ (t ++ []), 0⟩ := by rw [ht2, s1]; exact b2
  have s3 : ht3 (helloB ⟨d, n, a, t⟩) = ⟨t ++ [], 0⟩ := by rw [ht3, s2]; exact c2
  have s4 : ht4 (helloB ⟨d, n, a, t⟩) = ⟨[], 0⟩ := by rw [ht4, s3]; exact d2
  have hP : takeHP (helloB ⟨d, n, a, t⟩) = ⟨d, n, a, t⟩ := by
    rw [takeHP, hd, s1, s2, s3]
    have x1 : textO ⟨nameE d ++ (be 8 n ++ (nameE (bytesE a) ++ (t ++ []))), 0⟩ 16 = d := a1
    have x2 : textO ⟨nameE (bytesE a) ++ (t ++ []), 0⟩ 128 = bytesE a := c1
    rw [x1, b1, x2, d1, readE_back a q3 hi]
  have hX : takeHX (helloB ⟨d, n, a, t⟩) = 0 := by
    rw [takeHX, hk, if_neg (by simp), s4, if_neg (by simp [endE]), hP, if_pos q]
  exact ⟨hX, by rw [takeH, if_pos hX, hP], hk⟩
theorem takeW_back (w : Wel) (q : rightW w = true) (hf : w.fst < 18446744073709551616) (hs : w.snd < 18446744073709551616) (hi : w.entry.id < 18446744073709551616) : takeWX (welcB w) = 0 ∧ takeW (welcB w) = w := by
  obtain ⟨q1, q2, q3, q4⟩ := rightW_parts q
  obtain ⟨f, s, a, t⟩ := w
  obtain ⟨p1, p2, -⟩ := entR_parts q3
  have e2 := name_short p1
  simp only at q1 q2 q3 q4 hf hs hi e2 p2
  have hd : (welcB ⟨f, s, a, t⟩).drop 1 = be 8 f ++ (be 8 s ++ (nameE (bytesE a) ++ (t ++ []))) := by
    rw [welcB, textE_small (by simp only; omega) (by simp only; omega)]
    simp
  have hk : kindB (welcB ⟨f, s, a, t⟩) = 2 := by rw [welcB]; rfl
  obtain ⟨a1, a2⟩ := num_put 8 f (be 8 s ++ (nameE (bytesE a) ++ (t ++ []))) (by simpa using hf)
  obtain ⟨b1, b2⟩ := num_put 8 s (nameE (bytesE a) ++ (t ++ [])) (by simpa using hs)
  obtain ⟨c1, c2⟩ := text_put (bytesE a) (t ++ []) 128 (by rw [bytesE_length]; omega) (by rw [bytesE_length]; omega)
  obtain ⟨d1, d2⟩ := raw_put t [] 32 q4.symm
  have s1 : wt1 (welcB ⟨f, s, a, t⟩) = ⟨be 8 s ++ (nameE (bytesE a) ++ (t ++ [])), 0⟩ := by rw [wt1, hd]; exact a2
  have s2 : wt2 (welcB ⟨f, s, a, t⟩) = ⟨nameE (bytesE a) ++ (t ++ []), 0⟩ := by rw [wt2, s1]; exact b2
  have s3 : wt3 (welcB ⟨f, s, a, t⟩) = ⟨t ++ [], 0⟩ := by rw [wt3, s2]; exact c2
  have s4 : wt4 (welcB ⟨f, s, a, t⟩) = ⟨[], 0⟩ := by rw [wt4, s3]; exact d2
  have hP : takeWP (welcB ⟨f, s, a, t⟩) = ⟨f, s, a, t⟩ := by
    rw [takeWP, hd, s1, s2, s3]
    have x2 : textO ⟨nameE (bytesE a) ++ (t ++ []), 0⟩ 128 = bytesE a := c1
    rw [a1, b1, x2, d1, readE_back a q3 hi]
  have hX : takeWX (welcB ⟨f, s, a, t⟩) = 0 := by
    rw [takeWX, hk, if_neg (by simp), s4, if_neg (by simp [endE]), hP, if_pos q]
  exact ⟨hX, by rw [takeW, if_pos hX, hP]⟩
end Go.Proofs.YtpcdbpijgmninaaDoor
