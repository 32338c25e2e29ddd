/- A slice of bytes that reads as a list; Open's contract; and the chapter's example, as the statements ask for it first (works). -/
import Derived.Test.YtpmidopfdfplmaaPackB
import Derived.Laws.IdiomStrings
import Derived.Laws.BytesArg
namespace Go.Proofs.Ytpmidopfdfplmaa
open Go.RowKit

/-- The slice v is just these bytes. -/
def BytesAt (w : World) (v : Value) (l : List UInt8) : Prop :=
  ∃ A cap, v = .slice A l.length cap ∧ l.length ≤ cap ∧ (l ≠ [] → ∃ ad : Addr, A = some ad ∧ ∀ j c, l[j]? = some c → w.cell? (ad.add j) = some (.int .u8 (c.toNat : Int)))

theorem BytesAt.of_own {w : World} {base : Nat} {v : Value} {l : List UInt8} (h : w.ownsRow base 5 1 v l.length (bv l)) : BytesAt w v l := by
  have hc := @World.ownsRow.cells _ _ _ _ _ _ _ h
  rcases h.2 with ⟨rfl, hn⟩ | ⟨g, cap, cur, rfl, _, _, hcap, _⟩
  · rw [List.length_eq_zero_iff] at hn
    subst hn
    exact ⟨none, 0, rfl, Nat.le_refl _, fun h => absurd rfl h⟩
  · refine ⟨_, cap, rfl, hcap, fun _ => ⟨_, rfl, fun j c hj => ?_⟩⟩
    exact hc (g := g) rfl j _ (by simp [bv, hj])

theorem add_block (ad : Addr) (j : Nat) : (ad.add j).block = ad.block := by unfold Addr.add; split <;> rfl

theorem BytesAt.keep {w w' : World} {v : Value} {l : List UInt8} (h : BytesAt w v l) (hk : l ≠ [] → ∀ g, g < w.heap.size → v.ownBlock = some g → w'.heap[g]? = w.heap[g]?) : BytesAt w' v l := by
  obtain ⟨A, cap, rfl, hcap, hc⟩ := h
  refine ⟨A, cap, rfl, hcap, fun hl => ?_⟩
  obtain ⟨ad, rfl, hcell⟩ := hc hl
  refine ⟨ad, rfl, fun j c hj => ?_⟩
  have h1 := hcell j c hj
  have hlt := World.block_lt_of_cell? w _ h1
  rw [add_block] at hlt
  rw [← h1]
  exact World.cell?_of_block (by rw [add_block]; exact hk hl ad.block hlt rfl)
theorem BytesAt.below {w w' : World} {v : Value} {l : List UInt8} (h : BytesAt w v l) (hb : Below w.heap.size w w') : BytesAt w' v l := h.keep fun _ g hg _ => hb.block g hg
theorem BytesAt.lt {w : World} {A : Option Addr} {n cap : Nat} {l : List UInt8} (h : BytesAt w (.slice A n cap) l) (hl : l ≠ []) : ∃ ad, A = some ad ∧ ad.block < w.heap.size := by
  obtain ⟨A', cap', e, _, hc⟩ := h
  injection e with e1 e2 e3
  subst e1
  obtain ⟨ad, rfl, hcell⟩ := hc hl
  refine ⟨ad, rfl, ?_⟩
  have h1 := hcell 0 (l.head hl) (by rw [← List.head?_eq_getElem?]; exact List.head?_eq_some_head hl)
  have hlt := World.block_lt_of_cell? w _ h1
  rwa [add_block] at hlt

theorem conv_bytes {w : World} {v : Value} {l : List UInt8} (h : BytesAt w v l) : (convert 22 9 v).run Try.prog w = .ok (.string ⟨l.toArray⟩) w := by
  obtain ⟨A, cap, rfl, -, hc⟩ := h
  cases A with
  | none =>
    have hl : l = [] := by
      by_cases e : l = []
      · exact e
      · obtain ⟨ad, h, _⟩ := hc e
        cases h
    subst hl
    exact run_convert_bytes_nil w _ _ Try.underlying22 Try.underlying5 _ _ _ Try.underlying9
  | some ad =>
    refine run_convert_bytes_back w _ _ _ ad cap l Try.underlying22 Try.underlying5 Try.underlying9 fun j hj => ?_
    obtain ⟨ad', h, hcell⟩ := hc (by rintro rfl; simp at hj)
    injection h with h
    subst h
    exact hcell j _ (List.getElem?_eq_getElem hj)

set_option maxHeartbeats 400000 in
theorem open_any (v : Value) (l : List UInt8) (w : World) (h : BytesAt w v l) :
    Calls Try.prog 12 #[v] w fun e w' => e = .returned (.pointer (some ⟨w.heap.size, 0, none⟩)) ∧ Rd w' w.heap.size ⟨l.toArray⟩ 0 ∧ Below w.heap.size w w' := by
  have hcv := conv_bytes h
  have hN := Whole.new w 46 #[.string ⟨l.toArray⟩, .int .i64 0]
  have HN := Lib.hid hN
  clear hN h
  go_enter Try.func12, Try.ntmps12
  go_wp2
  go_ret
  exact ⟨rfl, HN.out, (Below.refl _ _).alloc (Nat.le_refl _) _⟩

/-- A contract's answer may be said in other words. -/
theorem Calls.turn {P : Program} {f : FuncId} {args args' : Array Value} {w : World} {Q : Ending → World → Prop} (h : Calls P f args w Q) (e : args = args') : Calls P f args' w Q := e ▸ h

def exA : ByteArray := ⟨#[0, 1, 2, 0, 2, 97, 98]⟩
def exB : ByteArray := ⟨#[0, 2, 97, 98]⟩
def exC : ByteArray := ⟨#[97, 98]⟩

theorem ex_open (w : World) :
    Calls Try.prog 12 #[.slice (some ⟨w.heap.size, 0, none⟩) 7 7] (w.alloc (.cells #[.int .u8 0, .int .u8 1, .int .u8 2, .int .u8 0, .int .u8 2, .int .u8 97, .int .u8 98] 5)) fun e w' =>
      e = .returned (.pointer (some ⟨w.heap.size + 1, 0, none⟩)) ∧ Rd w' (w.heap.size + 1) exA 0 ∧ Below w.heap.size w w' := by
  have h := open_any (.slice (some ⟨w.heap.size, 0, none⟩) 7 7) [0, 1, 2, 0, 2, 97, 98] (w.alloc (.cells #[.int .u8 0, .int .u8 1, .int .u8 2, .int .u8 0, .int .u8 2, .int .u8 97, .int .u8 98] 5)) ?_
  · refine h.mono ?_
    rintro e w' ⟨rfl, h1, h2⟩
    have hz : (w.alloc (.cells #[.int .u8 0, .int .u8 1, .int .u8 2, .int .u8 0, .int .u8 2, .int .u8 97, .int .u8 98] 5)).heap.size = w.heap.size + 1 := by simp
    rw [hz] at h1 h2 ⊢
    exact ⟨rfl, h1, ((Below.refl _ _).alloc (Nat.le_refl _) _).trans (h2.mono (by omega))⟩
  · refine ⟨_, 7, rfl, Nat.le_refl _, fun _ => ⟨_, rfl, fun j c hj => ?_⟩⟩
    have hN := Whole.new w 5 #[.int .u8 0, .int .u8 1, .int .u8 2, .int .u8 0, .int .u8 2, .int .u8 97, .int .u8 98]
    have ha : (⟨w.heap.size, 0, none⟩ : Addr).add j = ⟨w.heap.size, j, none⟩ := by unfold Addr.add; split <;> simp_all
    rw [ha, hN.at_ j]
    match j, hj with
    | 0, hj | 1, hj | 2, hj | 3, hj | 4, hj | 5, hj | 6, hj => simp at hj; subst hj; rfl

theorem ex_num (g : Nat) (w : World) (h : Rd w g exA 0) :
    Calls Try.prog 14 #[.pointer (some ⟨g, 0, none⟩), .int .i64 3] w fun e w' => e = .returned (.int .u64 258) ∧ RdTo w g exB 0 w' :=
  read_num g exA 0 3 w h (by decide) (by decide) (by decide)

theorem ex_text (g : Nat) (w : World) (h : Rd w g exB 0) :
    Calls Try.prog 16 #[.pointer (some ⟨g, 0, none⟩), .int .i64 2] w fun e w' => e = .returned (.string exC) ∧ RdTo w g ByteArray.empty 0 w' :=
  read_text_ok g 0 0 w 2 2 exC ByteArray.empty exC (by decide) (by decide)
    (Lib.hid (read_num g exB 0 2 w h (by decide) (by decide) (by decide)))
    (Lib.hid fun w1 h1 => raw_some g exC 0 2 w1 h1 (by decide))

theorem ex_end (g : Nat) (w : World) (h : Rd w g ByteArray.empty 0) :
    Calls Try.prog 22 #[.pointer (some ⟨g, 0, none⟩)] w fun e w' => e = .returned (.int .i64 0) ∧ w = w' := end_any g ByteArray.empty 0 w h

theorem ex_put (w : World) :
    Calls Try.prog 8 #[.slice none 0 0, .int .u64 258, .int .i64 3] w fun e w' =>
      ∃ v', e = .returned v' ∧ w'.ownsRow w.heap.size 5 1 v' 3 (bv [0, 1, 2]) ∧ Below w.heap.size w w' :=
  put_num w.heap.size (.slice none 0 0) [] 258 3 w (by decide) (by decide) (World.ownsRow_nil _ _ _ _) (Nat.le_refl _) (by decide)

theorem ex_put_text (B : Nat) (v : Value) (w : World) (h : w.ownsRow B 5 1 v 3 (bv [0, 1, 2])) (hB : B ≤ w.heap.size) :
    Calls Try.prog 10 #[v, .string exC] w fun e w' =>
      ∃ v', e = .returned v' ∧ (convert 22 9 v').run Try.prog w' = .ok (.string exA) w' ∧ Below B w w' := by
  refine (put_text B v [0, 1, 2] exC w (by decide) h hB (by decide)).mono ?_
  rintro e w' ⟨v', rfl, ho, hb⟩
  exact ⟨v', rfl, conv_bytes (BytesAt.of_own (l := [0, 1, 2, 0, 2, 97, 98]) ho), hb⟩

set_option maxHeartbeats 400000 in
theorem works_any (w : World) :
    Calls Try.prog 7 #[] w fun e w' => e = .returned (.bool true) ∧ Below w.heap.size w w' := by
  go_enter Try.func7, Try.ntmps7
  go_wp2_with fail
  refine (ex_open w).mono ?_
  rintro e w1 ⟨rfl, hr1, hb1⟩
  have HR1 := Lib.hid hr1
  clear hr1
  go_wp2_with fail
  refine (ex_put w1).mono ?_
  rintro e w2 ⟨v2, rfl, ho2, hb2⟩
  have HO2 := Lib.hid ho2
  clear ho2
  go_wp2_with fail
  refine (ex_put_text w1.heap.size v2 w2 HO2.out hb2.size).mono ?_
  rintro e w3 ⟨v3, rfl, hcv, hb3⟩
  unfold exA at hcv
  have hr3 : Rd w3 (w.heap.size + 1) exA 0 := (HR1.out.below hb2 HR1.out.lt).below hb3 HR1.out.lt
  have HR3 := Lib.hid hr3
  clear hr3
  go_wp2_with fail
  refine (ex_num _ w3 HR3.out).mono ?_
  rintro e w4 ⟨rfl, hr4, hg4⟩
  have HR4 := Lib.hid hr4
  clear hr4 hcv
  go_wp2_with fail
  refine (ex_text _ w4 HR4.out).mono ?_
  rintro e w5 ⟨rfl, hr5, hg5⟩
  have HR5 := Lib.hid hr5
  clear hr5
  unfold exC
  go_wp2_with fail
  refine (ex_end _ w5 HR5.out).mono ?_
  rintro e w6 ⟨rfl, rfl⟩
  go_wp2_with fail
  refine (end_nil w5).mono ?_
  rintro e w6 ⟨rfl, rfl⟩
  have hbel : Below w.heap.size w w5 := by
    have z1 := hb1.size
    have z2 := hb2.size
    have z3 := hb3.size
    have z4 := hg4.size
    have q1 : Below w.heap.size w w3 := (hb1.trans (hb2.mono z1)).trans (hb3.mono z1)
    have q2 : Below w.heap.size w w4 := q1.grown hg4 (by omega) (fun k hk => by injection hk; omega)
    exact q2.grown hg5 (by omega) (fun k hk => by injection hk; omega)
  clear hb1 hb2 hb3 hg4 hg5
  go_wp2
  go_ret
  exact ⟨rfl, hbel⟩
end Go.Proofs.Ytpmidopfdfplmaa
