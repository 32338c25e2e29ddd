/- Plain mathematics of package cipher: Quarter, the 16 words, their rounds, a block, a message changed; the chapter's example. It speaks of no program. A statement that leaves its order open, with one condition S on the world that every operation keeps; and steps for whole arrays by value. Append of bytes, and where the new slice lies; two rows apart. What the document's left, Quarter and word of layer 6 answer. -/
import Derived.Test.YtaobehhekdfkkaaGa
import Derived.Deep.WholeRow
import Derived.StillTailTactics
import Derived.Maps.AppendAt
namespace Go.Proofs.Ytaobehhekdfkkaa

/-- A word turned round to the left. -/
def rotl (x : UInt32) (k : Nat) : UInt32 := (x <<< UInt32.ofNat k) ||| (x >>> UInt32.ofNat (32 - k))
/-- Half of a Quarter: the first, then the second time. -/
def qHalf (j k : Nat) (p : UInt32 × UInt32 × UInt32 × UInt32) : UInt32 × UInt32 × UInt32 × UInt32 :=
  match p with
  | (a, b, c, d) =>
    let a' := a + b
    let d' := rotl (d ^^^ a') j
    let c' := c + d'
    (a', rotl (b ^^^ c') k, c', d')
def quarter (a b c d : UInt32) : UInt32 × UInt32 × UInt32 × UInt32 := qHalf 8 7 (qHalf 16 12 (a, b, c, d))
/-- Quarter of the words at four places. -/
def qAt (l : List UInt32) (p : Nat × Nat × Nat × Nat) : List UInt32 :=
  match p with
  | (i, j, k, m) => (((l.set i (quarter (l.getD i 0) (l.getD j 0) (l.getD k 0) (l.getD m 0)).1).set j (quarter (l.getD i 0) (l.getD j 0) (l.getD k 0) (l.getD m 0)).2.1).set k (quarter (l.getD i 0) (l.getD j 0) (l.getD k 0) (l.getD m 0)).2.2.1).set m (quarter (l.getD i 0) (l.getD j 0) (l.getD k 0) (l.getD m 0)).2.2.2
theorem qAt_length (l : List UInt32) (p : Nat × Nat × Nat × Nat) : (qAt l p).length = l.length := by
  obtain ⟨i, j, k, m⟩ := p
  simp [qAt]
def qPlaces : List (Nat × Nat × Nat × Nat) := [(0, 4, 8, 12), (1, 5, 9, 13), (2, 6, 10, 14), (3, 7, 11, 15), (0, 5, 10, 15), (1, 6, 11, 12), (2, 7, 8, 13), (3, 4, 9, 14)]
def dround (l : List UInt32) : List UInt32 := qPlaces.foldl qAt l
/-- So many of the eight. -/
def dpart (l : List UInt32) (n : Nat) : List UInt32 := (qPlaces.take n).foldl qAt l
theorem dpart_next (l : List UInt32) (n : Nat) (p : Nat × Nat × Nat × Nat) (h : qPlaces[n]? = some p) : dpart l (n + 1) = qAt (dpart l n) p := by
  rw [dpart, take_at h, List.foldl_append]
  rfl
theorem dpart_all (l : List UInt32) : dpart l 8 = dround l := rfl
theorem foldl_qAt_length (ps : List (Nat × Nat × Nat × Nat)) (l : List UInt32) : (ps.foldl qAt l).length = l.length := by
  induction ps generalizing l with
  | nil => rfl
  | cons p ps ih => rw [List.foldl_cons, ih, qAt_length]
theorem dpart_length (l : List UInt32) (n : Nat) : (dpart l n).length = l.length := foldl_qAt_length _ _
theorem dround_length (l : List UInt32) : (dround l).length = l.length := foldl_qAt_length _ _
def drounds (l : List UInt32) : Nat → List UInt32
  | 0 => l
  | n + 1 => dround (drounds l n)
theorem drounds_length (l : List UInt32) (n : Nat) : (drounds l n).length = l.length := by
  induction n with
  | zero => rfl
  | succ n ih => rw [drounds, dround_length, ih]
/-- A word of four bytes, the lowest first. -/
def lword (l : List UInt8) : UInt32 := (l.getD 0 0).toUInt32 ||| (l.getD 1 0).toUInt32 <<< 8 ||| (l.getD 2 0).toUInt32 <<< 16 ||| (l.getD 3 0).toUInt32 <<< 24
/-- So many words of four bytes each. -/
def lwords (l : List UInt8) (n : Nat) : List UInt32 := (List.range n).map fun i => lword ((l.drop (4 * i)).take 4)
theorem lwords_length (l : List UInt8) (n : Nat) : (lwords l n).length = n := by simp [lwords]
theorem lwords_next (l : List UInt8) (n : Nat) : lwords l (n + 1) = lwords l n ++ [lword ((l.drop (4 * n)).take 4)] := by simp [lwords, List.range_succ]
def sigma : List UInt32 := [1634760805, 857760878, 2036477234, 1797285236]
def words16C (key nonce : List UInt8) (ctr : UInt32) : List UInt32 := sigma ++ lwords key 8 ++ ctr :: lwords nonce 3
theorem words16C_length (key nonce : List UInt8) (ctr : UInt32) : (words16C key nonce ctr).length = 16 := by simp [words16C, sigma, lwords_length]
/-- A word's four bytes, the lowest first. -/
def lbytes (x : UInt32) : List UInt8 := [x.toUInt8, (x >>> 8).toUInt8, (x >>> 16).toUInt8, (x >>> 24).toUInt8]
def sumW (a b : List UInt32) : List UInt32 := List.zipWith (· + ·) a b
/-- The bytes of words, one behind the other. -/
def lstream (l : List UInt32) : List UInt8 := (l.map lbytes).flatten
theorem lstream_length (l : List UInt32) : (lstream l).length = 4 * l.length := by
  induction l with
  | nil => rfl
  | cons x l ih =>
    have e : lstream (x :: l) = lbytes x ++ lstream l := by simp [lstream]
    rw [e, List.length_append, ih]
    simp [lbytes]
    omega
theorem lstream_next (l : List UInt32) (k : Nat) (x : UInt32) (h : l[k]? = some x) : lstream (l.take (k + 1)) = lstream (l.take k) ++ lbytes x := by
  rw [take_at h]
  simp [lstream]
def blockC (key nonce : List UInt8) (ctr : UInt32) : List UInt8 := lstream (sumW (drounds (words16C key nonce ctr) 10) (words16C key nonce ctr))
theorem sumW_length (a b : List UInt32) (n : Nat) (ha : a.length = n) (hb : b.length = n) : (sumW a b).length = n := by simp [sumW, ha, hb]
theorem blockC_length (key nonce : List UInt8) (ctr : UInt32) : (blockC key nonce ctr).length = 64 := by
  rw [blockC, lstream_length, sumW_length _ _ 16 (by rw [drounds_length, words16C_length]) (words16C_length _ _ _)]
/-- The byte that the message's byte at i is blended with. -/
def keyByte (key nonce : List UInt8) (ctr : UInt32) (i : Nat) : UInt8 := (blockC key nonce (ctr + UInt32.ofNat (i / 64))).getD (i % 64) 0
def xorC (key nonce : List UInt8) (ctr : UInt32) (msg : List UInt8) : List UInt8 := msg.mapIdx fun i c => c ^^^ keyByte key nonce ctr i
theorem xorC_length (key nonce : List UInt8) (ctr : UInt32) (msg : List UInt8) : (xorC key nonce ctr msg).length = msg.length := by simp [xorC]
theorem xorC_xorC (key nonce : List UInt8) (ctr : UInt32) (msg : List UInt8) : xorC key nonce ctr (xorC key nonce ctr msg) = msg := by
  apply List.ext_getElem?
  intro i
  simp only [xorC, List.getElem?_mapIdx, Option.map_map]
  cases msg[i]? with
  | none => rfl
  | some c => simp [UInt8.xor_assoc]
theorem xorC_take (key nonce : List UInt8) (ctr : UInt32) (msg : List UInt8) (n : Nat) : xorC key nonce ctr (msg.take n) = (xorC key nonce ctr msg).take n := by
  apply List.ext_getElem?
  intro i
  simp only [xorC, List.getElem?_mapIdx, List.getElem?_take]
  split <;> rfl
theorem xorC_next (key nonce : List UInt8) (ctr : UInt32) (msg : List UInt8) (k : Nat) (c : UInt8) (h : msg[k]? = some c) : (xorC key nonce ctr msg).take (k + 1) = (xorC key nonce ctr msg).take k ++ [c ^^^ keyByte key nonce ctr k] := by
  apply take_at
  simp [xorC, h]

theorem ex_quarter : quarter 0x11111111 0x01020304 0x9b8d6f43 0x01234567 = (0xea2a92f4, 0xcb1cf8ce, 0x4581472e, 0x5881c4bb) := by kernel_rfl
def chaS : List (List UInt32) := [[1634760805, 857760878, 2036477234, 1797285236, 0, 0, 0, 0, 0, 0, 0, 0, 0, 0, 0, 0], [3831485001, 465051814, 3810167018, 3865553406, 708572787, 2260680856, 1175146506, 4195784838, 1401801230, 205755969, 16389820, 2315813162, 1807715081, 3274707926, 3147798601, 2277908837], [2987265446, 555851331, 2043056534, 2394542343, 683648334, 243939487, 2031723700, 842999353, 1769110809, 317167340, 3515309448, 1613476332, 1612483213, 416233319, 1624313532, 397031114], [42443425, 3537648111, 4075615518, 3280431870, 2457253921, 936163239, 535217241, 3858322967, 3618735395, 2694131698, 320827381, 1865984460, 1547860575, 496143739, 4107449562, 442763396], [3464398809, 2736782107, 1867918925, 914662315, 3272508460, 998218446, 2296453912, 505049583, 1927367832, 1097802169, 1733510303, 425094469, 2739030577, 28346074, 3103619896, 1123945486], [1308838156, 2549006073, 4135762692, 793240496, 1354003995, 3934035184, 3013862787, 3854227624, 1335860601, 1156916115, 2881466214, 1593652346, 2985647285, 85002989, 1444698375, 3558679988], [153779254, 551088281, 2573988431, 1784856811, 3150129412, 343203913, 2777219198, 1595256366, 2046321669, 3236133586, 875096108, 2039282348, 748642874, 426368672, 803736417, 3190166337], [1843350424, 1608384784, 3655185970, 1947739403, 3718507033, 1188705781, 838547146, 1894081315, 1188398960, 3234391270, 3125483095, 3295685470, 2940917475, 3868489986, 646047163, 674516562], [4142613381, 256929999, 2185938132, 4278346116, 1910216669, 1624086861, 2910867510, 2312475086, 2656191475, 382791205, 2196319126, 3503982164, 1805033478, 1199192055, 3527735948, 2991348835], [172609723, 4252221419, 3259208404, 3775952493, 2081980761, 957320013, 170075935, 235214466, 1531487041, 140632055, 1563676091, 399783725, 3319306763, 2649833516, 2961880544, 2236122496], [1282424849, 1562217778, 1812475918, 3181191391, 3088700093, 451775904, 3438229160, 3339548555, 2086224346, 2370328401, 1071654007, 927652024, 4105716586, 480319509, 1773569987, 2254827186]]
theorem chaS_0 : dround (chaS.getD 0 []) = chaS.getD 1 [] := by kernel_rfl
theorem chaS_1 : dround (chaS.getD 1 []) = chaS.getD 2 [] := by kernel_rfl
theorem chaS_2 : dround (chaS.getD 2 []) = chaS.getD 3 [] := by kernel_rfl
theorem chaS_3 : dround (chaS.getD 3 []) = chaS.getD 4 [] := by kernel_rfl
theorem chaS_4 : dround (chaS.getD 4 []) = chaS.getD 5 [] := by kernel_rfl
theorem chaS_5 : dround (chaS.getD 5 []) = chaS.getD 6 [] := by kernel_rfl
theorem chaS_6 : dround (chaS.getD 6 []) = chaS.getD 7 [] := by kernel_rfl
theorem chaS_7 : dround (chaS.getD 7 []) = chaS.getD 8 [] := by kernel_rfl
theorem chaS_8 : dround (chaS.getD 8 []) = chaS.getD 9 [] := by kernel_rfl
theorem chaS_9 : dround (chaS.getD 9 []) = chaS.getD 10 [] := by kernel_rfl
theorem chaS_words : words16C (List.replicate 32 0) (List.replicate 12 0) 0 = chaS.getD 0 [] := by kernel_rfl
theorem chaS_all : drounds (chaS.getD 0 []) 10 = chaS.getD 10 [] := by
  simp only [drounds, chaS_0, chaS_1, chaS_2, chaS_3, chaS_4, chaS_5, chaS_6, chaS_7, chaS_8, chaS_9]
theorem chaS_byte : (lstream (sumW (chaS.getD 10 []) (chaS.getD 0 []))).getD 0 0 = 118 := by kernel_rfl
theorem ex_xor : xorC (List.replicate 32 0) (List.replicate 12 0) 0 [0] = [118] := by
  have h : (blockC (List.replicate 32 0) (List.replicate 12 0) 0).getD 0 0 = 118 := by rw [blockC, chaS_words, chaS_all, chaS_byte]
  have h2 : keyByte (List.replicate 32 0) (List.replicate 12 0) 0 0 = 118 := by
    rw [keyByte]
    exact h
  simp only [xorC, List.mapIdx_cons, List.mapIdx_nil, h2]
  rfl
end Go.Proofs.Ytaobehhekdfkkaa

namespace Go.Proofs.Ytaobehhekdfkkaa
open Go.RowKit

section
variable {P : Program} {md : Region.Mode} {l : List Oper} {Q : Exit → Act → World → Prop} {S : World → Prop} {fuel : Nat} {listed : Array Bool} {a : Act} {w : World} {i j : Nat} {o o' : Oper} {rest rest' : List Oper}

/-- It begins. -/
theorem regS_begin (S : World → Prop) {id : Nat} (hm : P.follows .mixedOrders = true) (hS : S w.drew) (h : wpAnyH P .any l.toArray Q S l.length (Array.replicate l.length false) a w.drew) : (Code.region id l.toArray true).wp P Q a w :=
  wp_region_held_drew hm hS fun _ => by simpa using h
/-- An operation that answers the same wherever S holds is taken first. -/
theorem regS_take {v : Value} (hi : l.drop i = o :: rest) (hs : Region.noSelect l.toArray = true) (hf : Region.free md l.toArray listed i = true) (hr : (Region.ready md l.toArray listed).contains i = true)
    (hQ : ∀ c a w, Q (.panic c) (a.put o.dst v) w → Q (.panic c) a w) (hw : Region.wanted o (yielded l.toArray a.tmps) = true) (hS : S w) (hy : ∀ w', S w' → (execOp a.eval o).run P w' = .ok (.value v) w')
    (h : wpAnyH P md l.toArray Q S fuel (listed.setIfInBounds i true) (a.put o.dst v) w) : wpAnyH P md l.toArray Q S (fuel + 1) listed a w :=
  wpAnyH_take (drop_nth hi) hs hf hr hQ (Or.inl ⟨hw, hy⟩) hS h
/-- One that alone may come up is carried out. -/
theorem regS_do (hi : l.drop i = o :: rest) (hr : Region.ready md l.toArray listed = [i])
    (h : ∀ K' : Act → World → Prop, Shut (∀ a w', S w' → wpAnyH P md l.toArray Q S fuel (listed.setIfInBounds i true) a w' → K' a w') → if Region.wanted o (yielded l.toArray a.tmps) = true then Oper.wp P o a w K' Q else K' (a.put o.dst undef) w) :
    wpAnyH P md l.toArray Q S (fuel + 1) listed a w :=
  wpAnyH_ready hr (by simp) (AllReadyH.cons (drop_nth hi) (fun K' hK => h K' (fun a w' hS hn => hK.out a w' hS fun _ => hn)) AllReadyH.nil)
/-- One of two that may come up is. -/
theorem regS_two (hi : l.drop i = o :: rest) (hj : l.drop j = o' :: rest') (hr : Region.ready md l.toArray listed = [i, j])
    (h : ∀ K' : Act → World → Prop, Shut (∀ a w', S w' → wpAnyH P md l.toArray Q S fuel (listed.setIfInBounds i true) a w' → K' a w') → if Region.wanted o (yielded l.toArray a.tmps) = true then Oper.wp P o a w K' Q else K' (a.put o.dst undef) w)
    (h' : ∀ K' : Act → World → Prop, Shut (∀ a w', S w' → wpAnyH P md l.toArray Q S fuel (listed.setIfInBounds j true) a w' → K' a w') → if Region.wanted o' (yielded l.toArray a.tmps) = true then Oper.wp P o' a w K' Q else K' (a.put o'.dst undef) w) :
    wpAnyH P md l.toArray Q S (fuel + 1) listed a w :=
  wpAnyH_ready hr (by simp) (AllReadyH.cons (drop_nth hi) (fun K' hK => h K' (fun a w' hS hn => hK.out a w' hS fun _ => hn)) (AllReadyH.cons (drop_nth hj) (fun K' hK => h' K' (fun a w' hS hn => hK.out a w' hS fun _ => hn)) AllReadyH.nil))
theorem regS_end {n : Nat} (hr : Region.ready md l.toArray listed = []) (h : Q .normal a w) : wpAnyH P md l.toArray Q S n listed a w := wpAnyH_done hr h n
end

/-- The same memory. -/
theorem Whole.of_heap {w w' : World} {g : Nat} {t : TypeId} {cs : Array Value} (h : Whole w g t cs) (hh : w'.heap = w.heap) : Whole w' g t cs := by rw [Whole, hh]; exact h
theorem BytesAt.of_heap {w w' : World} {v : Value} {l : List UInt8} (h : BytesAt w v l) (hh : w'.heap = w.heap) : BytesAt w' v l := h.keep fun _ _ _ _ => by rw [hh]
/-- One that changes no memory at all, in the text's order. -/
theorem still_all {P : Program} {id : Nat} {l : List Oper} {Q : Exit → Act → World → Prop} {a : Act} {w : World} (hm : P.follows .mixedOrders = true) (hB : Region.lexB .any l.toArray = true)
    (h : ∀ w', w'.heap = w.heap → Below w.heap.size w w' → wpStill P l.toArray w' (fun a' => Q .normal a' w') l a) : (Code.region id l.toArray true).wp P Q a w :=
  wp_region_still_lit hm hB (h _ rfl (Below.refl _ _).drew)
/-- One whose first n change no memory, and whose others come one behind the other. -/
theorem still_tail {P : Program} {id : Nat} {l : List Oper} {Q : Exit → Act → World → Prop} {a : Act} {w : World} (n : Nat) (hm : P.follows .mixedOrders = true) (hB : Region.lexTailB .any l.toArray n = true)
    (h : ∀ w', w'.heap = w.heap → Below w.heap.size w w' → wpStill P l.toArray w' (fun a' => wpList P l.toArray Q (l.drop n) a' w') (l.take n) a) : (Code.region id l.toArray true).wp P Q a w :=
  wp_region_still_tail n hm hB (h _ rfl (Below.refl _ _).drew)

section
variable {P : Program} {ops : Array Oper} {rest : List Oper} {o : Oper} {a : Act} {w : World} {Q : Exit → Act → World → Prop} {K : Act → World → Prop}

theorem wp_box_row (t : TypeId) (x : Operand) (ho : o.op = .box t x) (cs : Array Value) (hx : a.eval x = .agg cs)
    (h : ∀ w', Below w.heap.size w w' → Whole w' w.heap.size t cs → w'.heap.size = w.heap.size + 1 → K (a.put o.dst (.pointer (some ⟨w.heap.size, 0, none⟩))) w') : o.wp P a w K Q := by
  have := h (w.alloc (.cells cs t)) ((Below.refl _ _).alloc (Nat.le_refl _) _) (Whole.new w t cs) (by simp)
  unfold Oper.wp execOp
  simpa [ho, hx, Instr.box, newVar, newRow, Value.cells, Oper.upon] using this
/-- A variable with an array's value. -/
theorem wpList_box_row (hgd : o.guard = none) (t : TypeId) (x : Operand) (ho : o.op = .box t x) (cs : Array Value) (hx : a.eval x = .agg cs)
    (h : ∀ w', Below w.heap.size w w' → Whole w' w.heap.size t cs → w'.heap.size = w.heap.size + 1 → wpList P ops Q rest (a.put o.dst (.pointer (some ⟨w.heap.size, 0, none⟩))) w') : wpList P ops Q (o :: rest) a w :=
  wpList_plain hgd fun _ hK => wp_box_row t x ho cs hx fun w' h1 h2 h3 => hK _ _ (h w' h1 h2 h3)

theorem wp_alloc_row (t : TypeId) (ho : o.op = .alloc t) (cs : Array Value) (hz : (P.info? t).map (·.zero) = some (some (.agg cs)))
    (h : ∀ w', Below w.heap.size w w' → Whole w' w.heap.size t cs → w'.heap.size = w.heap.size + 1 → K (a.put o.dst (.pointer (some ⟨w.heap.size, 0, none⟩))) w') : o.wp P a w K Q := by
  have hh := h (w.alloc (.cells cs t)) ((Below.refl _ _).alloc (Nat.le_refl _) _) (Whole.new w t cs) (by simp)
  cases hq : P.info? t with
  | none => simp [hq] at hz
  | some i =>
    have hz' : i.zero = some (.agg cs) := by simpa [hq] using hz
    unfold Oper.wp execOp
    simpa [ho, Instr.alloc, zeroValue, typeInfo, hq, hz', newVar, newRow, Value.cells, Oper.upon] using hh
/-- A variable of an array's type. -/
theorem wpList_alloc_row (hgd : o.guard = none) (t : TypeId) (ho : o.op = .alloc t) (cs : Array Value) (hz : (P.info? t).map (·.zero) = some (some (.agg cs)))
    (h : ∀ w', Below w.heap.size w w' → Whole w' w.heap.size t cs → w'.heap.size = w.heap.size + 1 → wpList P ops Q rest (a.put o.dst (.pointer (some ⟨w.heap.size, 0, none⟩))) w') : wpList P ops Q (o :: rest) a w :=
  wpList_plain hgd fun _ hK => wp_alloc_row t ho cs hz fun w' h1 h2 h3 => hK _ _ (h w' h1 h2 h3)

theorem grown_setRow (w : World) (g : Nat) (cs : Array Value) : w.grownBy (w.setRow g cs) (some g) :=
  ⟨rfl, rfl, rfl, by simp, fun k _ hne => setRow_other w g k cs (fun e => hne (by rw [e]))⟩
theorem Whole.setRow {w : World} {g : Nat} {t : TypeId} {old cs : Array Value} (h : Whole w g t old) : Whole (w.setRow g cs) g t cs := setRow_heap w g old cs t (0, 0) h

theorem wp_store_whole (ty : TypeId) (x y : Operand) (ho : o.op = .store ty x y)
    (g : Nat) (cells : Array Value) (hx : a.eval x = .pointer (some ⟨g, 0, none⟩)) (hy : a.eval y = .agg cells) (t : TypeId) (old : Array Value) (hg : Whole w g t old) (hi : (P.info? ty).map (·.size) = some cells.size)
    (hold : old.size = cells.size) (h1 : cells.all (·.oneCell') = true)
    (h : ∀ w', w.grownBy w' (some g) → Whole w' g t cells → w'.heap.size = w.heap.size → K (a.put o.dst undef) w') : o.wp P a w K Q :=
  wp_store_row ty x y ho g cells hx hy t old hg hi hold h1 (h _ (grown_setRow w g cells) hg.setRow (by simp))
/-- An array stored into a variable. -/
theorem wpList_store_whole (hgd : o.guard = none) (ty : TypeId) (x y : Operand) (ho : o.op = .store ty x y)
    (g : Nat) (cells : Array Value) (hx : a.eval x = .pointer (some ⟨g, 0, none⟩)) (hy : a.eval y = .agg cells) (t : TypeId) (old : Array Value) (hg : Whole w g t old) (hi : (P.info? ty).map (·.size) = some cells.size)
    (hold : old.size = cells.size) (h1 : cells.all (·.oneCell') = true)
    (h : ∀ w', w.grownBy w' (some g) → Whole w' g t cells → w'.heap.size = w.heap.size → wpList P ops Q rest (a.put o.dst undef) w') : wpList P ops Q (o :: rest) a w :=
  wpList_plain hgd fun _ hK => wp_store_whole ty x y ho g cells hx hy t old hg hi hold h1 fun w' p q r => hK _ _ (h w' p q r)
end
end Go.Proofs.Ytaobehhekdfkkaa

namespace Go.Proofs.Ytaobehhekdfkkaa
open Go.RowKit

/-- Append of bytes, and where the new slice lies. -/
theorem run_append_bytes_at (w : World) (base : Nat) (ty : TypeId) (v : Value) (n : Nat) (xs : List Value) (hown : w.ownsRow base 5 1 v n xs) (src : Value) (l : List UInt8) (hs : BytesAt w src l)
    (hlen : n + l.length ≤ 10000000) (hbase : base ≤ w.heap.size) :
    ∃ v' w', (Builtin.append_ #[22, 22] ty #[v, src]).run Try.prog w = .ok v' w' ∧ w'.ownsRow base 5 1 v' (n + l.length) (xs ++ bv l) ∧ w.grownBy w' v.ownBlock ∧ (v'.ownBlock = v.ownBlock ∨ v'.ownBlock = some w.heap.size) := by
  obtain ⟨i0, hi0, hz0, hz1, hz2⟩ := info_parts byte_info
  obtain ⟨A, cap, rfl, -, hc⟩ := hs
  cases A with
  | none =>
    have hl : l = [] := by
      by_cases e : l = []
      · exact e
      · obtain ⟨ad, h, _⟩ := hc e
        cases h
    subst hl
    exact ⟨v, w, run_append_nothing w base _ ty _ i0 1 Try.underlying22 hi0 v n xs hown cap, by simpa [bv] using hown, World.grownBy.refl w _, .inl rfl⟩
  | some ad =>
    obtain ⟨v', w', hr, ho, hg, _, hat⟩ := run_append_own_at (P := Try.prog) w base 22 ty 5 i0 (.int .u8 0) 1 1 Try.underlying22 hi0 hz0 hz1 hz2 rfl (by decide) v n xs hown ad l.length cap (bv l) (by rw [bv_length, Nat.mul_one]) (fun j u hu => by
      simp only [bv, List.getElem?_map, Option.map_eq_some_iff] at hu
      obtain ⟨c, hcj, rfl⟩ := hu
      obtain ⟨ad', h, hcell⟩ := hc (by rintro rfl; simp at hcj)
      injection h with h
      subst h
      exact hcell j c hcj) (bv_one l) (by simp only [maxLen]; omega) (by omega) hbase
    exact ⟨v', w', hr, ho, hg, hat⟩

theorem wp_append_bytes_at {w : World} {o : Oper} {a : Act} {K : Act → World → Prop} {Q : Exit → Act → World → Prop} (s x : Operand)
    (ho : o.op = .call { callee := .builtin .append, args := #[s, x], argTypes := #[22, 22] })
    (base : Nat) (v : Value) (n : Nat) (xs : List Value) (hv : a.eval s = v) (hown : w.ownsRow base 5 1 v n xs) (src : Value) (l : List UInt8) (hx : a.eval x = src) (hs : BytesAt w src l)
    (hlen : n + l.length ≤ 10000000) (hbase : base ≤ w.heap.size)
    (h : ∀ v' w', w'.ownsRow base 5 1 v' (n + l.length) (xs ++ bv l) → w.grownBy w' v.ownBlock → (v'.ownBlock = v.ownBlock ∨ v'.ownBlock = some w.heap.size) → K (a.put o.dst v') w') : o.wp Try.prog a w K Q := by
  obtain ⟨v', w', hr, h2, h3, h4⟩ := run_append_bytes_at w base o.type v n xs hown src l hs hlen hbase
  unfold Oper.wp execOp
  simp only [ho, resolve, invoke, builtin, Sem.run_bind, Sem.run_pure, Result.andThen_ok, List.map_toArray, List.map_cons, List.map_nil, hv, hx, hr]
  exact h v' w' h2 h3 h4

theorem wpList_append_bytes_at {w : World} {ops : Array Oper} {rest : List Oper} {o : Oper} {a : Act} {Q : Exit → Act → World → Prop} (hgd : o.guard = none) (s x : Operand)
    (ho : o.op = .call { callee := .builtin .append, args := #[s, x], argTypes := #[22, 22] })
    (base : Nat) (v : Value) (n : Nat) (xs : List Value) (hv : a.eval s = v) (hown : w.ownsRow base 5 1 v n xs) (src : Value) (l : List UInt8) (hx : a.eval x = src) (hs : BytesAt w src l)
    (hlen : n + l.length ≤ 10000000) (hbase : base ≤ w.heap.size)
    (h : ∀ v' w', w'.ownsRow base 5 1 v' (n + l.length) (xs ++ bv l) → w.grownBy w' v.ownBlock → (v'.ownBlock = v.ownBlock ∨ v'.ownBlock = some w.heap.size) → wpList Try.prog ops Q rest (a.put o.dst v') w') : wpList Try.prog ops Q (o :: rest) a w :=
  wpList_plain hgd fun _ hK => wp_append_bytes_at s x ho base v n xs hv hown src l hx hs hlen hbase fun v' w' h2 h3 h4 => hK _ _ (h v' w' h2 h3 h4)

/-- Two rows that the call owns lie apart, or neither lies anywhere. -/
def Apt (v u : Value) : Prop := (v.ownBlock = none ∧ u.ownBlock = none) ∨ v.ownBlock ≠ u.ownBlock
theorem Apt.turn {v u : Value} (h : Apt v u) : Apt u v := h.imp (fun p => ⟨p.2, p.1⟩) (fun p e => p e.symm)
theorem Apt.far {v u : Value} (h : Apt v u) : u.ownBlock = none ∨ u.ownBlock ≠ v.ownBlock := h.imp (fun p => p.2) (fun p e => p e.symm)
theorem Apt.next {w : World} {v v' u : Value} {B : Nat} {e : TypeId} {s n : Nat} {xs : List Value} (h : Apt v u) (ho : w.ownsRow B e s u n xs) {H : Nat} (hat : v'.ownBlock = v.ownBlock ∨ v'.ownBlock = some H) (hH : w.heap.size = H) : Apt v' u := by
  subst hH
  rcases hat with e1 | e1
  · unfold Apt; rw [e1]; exact h
  · right
    rw [e1]
    intro e2
    have := (ho.lt _ e2.symm).2
    omega
/-- A row owned from B on is owned from below it. -/
theorem own_less {w : World} {B B' : Nat} {e : TypeId} {s : Nat} {v : Value} {n : Nat} {xs : List Value} (h : w.ownsRow B e s v n xs) (hb : B' ≤ B) : w.ownsRow B' e s v n xs :=
  ⟨h.1, h.2.imp id fun ⟨g, cap, cur, h1, h2, h3⟩ => ⟨g, cap, cur, h1, Nat.le_trans hb h2, h3⟩⟩

theorem own_form {w : World} {B : Nat} {e : TypeId} {s : Nat} {v : Value} {n : Nat} {xs : List Value} (h : w.ownsRow B e s v n xs) : ∃ A cap, v = .slice A n cap := by
  rcases h.2 with ⟨h1, h2⟩ | ⟨g, cap, cur, h1, -⟩
  · subst h2; exact ⟨_, _, h1⟩
  · exact ⟨_, _, h1⟩
theorem kept_below {w w' : World} {B C : Nat} {e : TypeId} {s : Nat} {v : Value} {n : Nat} {xs : List Value} (h : w.ownsRow B e s v n xs) (hb : Below C w w') (hc : C = w.heap.size) : w'.ownsRow B e s v n xs := by
  subst hc
  exact h.kept (row := none) ⟨hb.os, hb.tape, hb.output, hb.size, fun k hk _ => hb.block k hk⟩ (Classical.em _)
/-- Four results. -/
theorem results_tmp4 {fn : Func} {t u v x : Tmp} (h : fn.results = #[.tmp t, .tmp u, .tmp v, .tmp x]) (tmps : Array Value) (P : Program) (w : World) :
    (results fn tmps).run P w = .ok (.tuple #[tmps.getD t undef, tmps.getD u undef, tmps.getD v undef, tmps.getD x undef]) w := by
  simp [results, h]
theorem made_bytes (n : Nat) : (madeCells #[Value.int .u8 0] n).toList = bv (List.replicate n 0) := by
  rw [toList_madeCells_one]
  simp [bv]
/-- Zero bytes are made. -/
theorem wp_make_bytes {o : Oper} {a : Act} {w : World} {K : Act → World → Prop} {Q : Exit → Act → World → Prop} (l c : Operand) (ho : o.op = .makeSlice 22 l c) (n : Nat) (hl : a.eval l = .int .i64 (n : Int)) (hc : a.eval c = .int .i64 (n : Int)) (hn : n ≤ 10000000)
    (h : ∀ w', BytesAt w' (.slice (some ⟨w.heap.size, 0, none⟩) n n) (List.replicate n 0) → Below w.heap.size w w' → w.heap.size < w'.heap.size → K (a.put o.dst (.slice (some ⟨w.heap.size, 0, none⟩) n n)) w') : o.wp Try.prog a w K Q := by
  obtain ⟨i0, hi0, hz0, hz1, hz2⟩ := info_parts byte_info
  obtain ⟨w', hrun, r1, r2⟩ := run_make_full (P := Try.prog) w w.heap.size 22 5 i0 (.int .u8 0) 1 Try.underlying22 hi0 hz0 hz1 .i64 .i64 n (by rw [hz2]; omega) (by simp only [maxLen]; omega) (Nat.le_refl _)
  have e : (madeCells (Value.int .u8 0).cells (n * 1)).toList = bv (List.replicate n 0) := by rw [Nat.mul_one]; exact made_bytes n
  rw [e] at r1
  have y : BytesAt w' (.slice (some ⟨w.heap.size, 0, none⟩) n n) (List.replicate n 0) := BytesAt.of_own (base := w.heap.size) (by rw [List.length_replicate]; exact r1)
  have hb : Below w.heap.size w w' := (Below.refl w.heap.size w).grown r2 (Nat.le_refl _) (fun k hk => by cases hk)
  have q := h w' y hb (r1.lt _ rfl).2
  unfold Oper.wp execOp
  simp [ho, hl, hc, hrun, Result.andThen, Oper.upon]
  exact q
def sliceLen : Value → Nat
  | .slice _ n _ => n
  | _ => 0
end Go.Proofs.Ytaobehhekdfkkaa

namespace Go.Proofs.Ytaobehhekdfkkaa
open Go.RowKit

theorem refLeft_16 (x : UInt32) (w : World) : Calls Try.prog 57 #[wd x, .int .u64 16] w fun e w' => e = .returned (wd (rotl x 16)) ∧ w = w' := by
  obtain ⟨-, -, -, r4, -⟩ := rules_w
  have s1 := run_shl 16 (by decide) 16 rfl
  have s2 := run_shr 16 (by decide) 16 rfl
  go_enter Try.func57, Try.ntmps57
  go_wp2
  go_ret
  exact ⟨rfl, rfl⟩
theorem refLeft_12 (x : UInt32) (w : World) : Calls Try.prog 57 #[wd x, .int .u64 12] w fun e w' => e = .returned (wd (rotl x 12)) ∧ w = w' := by
  obtain ⟨-, -, -, r4, -⟩ := rules_w
  have s1 := run_shl 12 (by decide) 12 rfl
  have s2 := run_shr 20 (by decide) 20 rfl
  go_enter Try.func57, Try.ntmps57
  go_wp2
  go_ret
  exact ⟨rfl, rfl⟩
theorem refLeft_8 (x : UInt32) (w : World) : Calls Try.prog 57 #[wd x, .int .u64 8] w fun e w' => e = .returned (wd (rotl x 8)) ∧ w = w' := by
  obtain ⟨-, -, -, r4, -⟩ := rules_w
  have s1 := run_shl 8 (by decide) 8 rfl
  have s2 := run_shr 24 (by decide) 24 rfl
  go_enter Try.func57, Try.ntmps57
  go_wp2
  go_ret
  exact ⟨rfl, rfl⟩
theorem refLeft_7 (x : UInt32) (w : World) : Calls Try.prog 57 #[wd x, .int .u64 7] w fun e w' => e = .returned (wd (rotl x 7)) ∧ w = w' := by
  obtain ⟨-, -, -, r4, -⟩ := rules_w
  have s1 := run_shl 7 (by decide) 7 rfl
  have s2 := run_shr 25 (by decide) 25 rfl
  go_enter Try.func57, Try.ntmps57
  go_wp2
  go_ret
  exact ⟨rfl, rfl⟩

/-- The four words behind so many steps. -/
def qSt (a b c d : UInt32) : Nat → UInt32 × UInt32 × UInt32 × UInt32
  | 0 => (a, b, c, d)
  | 1 => (a + b, b, c, rotl (d ^^^ (a + b)) 16)
  | 2 => qHalf 16 12 (a, b, c, d)
  | 3 => match qHalf 16 12 (a, b, c, d) with | (a, b, c, d) => (a + b, b, c, rotl (d ^^^ (a + b)) 8)
  | _ => quarter a b c d

set_option maxHeartbeats 1000000 in
theorem refQuarter_any (a b c d : UInt32) (w : World) :
    Calls Try.prog 49 #[wd a, wd b, wd c, wd d] w fun e w' => e = .returned (.tuple #[wd (quarter a b c d).1, wd (quarter a b c d).2.1, wd (quarter a b c d).2.2.1, wd (quarter a b c d).2.2.2]) ∧ Below w.heap.size w w' := by
  obtain ⟨r1, r2, -, -, -⟩ := rules_w
  go_enter Try.func49, Try.ntmps49
  go_wp2_with fail
  have b1 : Below w.heap.size w (w.alloc (.cells #[.int .u64 16, .int .u64 12, .int .u64 8, .int .u64 7] 68)) := (Below.refl _ _).alloc (Nat.le_refl _) _
  have y1 := Whole.new w 68 #[.int .u64 16, .int .u64 12, .int .u64 8, .int .u64 7]
  have c0 := y1.at_ 0
  have c1 := y1.at_ 1
  have c2 := y1.at_ 2
  have c3 := y1.at_ 3
  simp only [List.getElem?_toArray, List.getElem?_cons_zero, List.getElem?_cons_succ] at c0 c1 c2 c3
  generalize w.alloc (.cells #[.int .u64 16, .int .u64 12, .int .u64 8, .int .u64 7] 68) = w1 at *
  have B1 := Lib.hid b1
  clear b1 y1
  go_loop [0, 1, 2, 3, 13] (fun ua ub uc ud i => ∃ k : Nat, k ≤ 4 ∧ i = .int .i64 (k : Int) ∧ ua = wd (qSt a b c d k).1 ∧ ub = wd (qSt a b c d k).2.1 ∧ uc = wd (qSt a b c d k).2.2.1 ∧ ud = wd (qSt a b c d k).2.2.2) (fun _ _ _ _ i => 4 - (intOf i).toNat)
  case atStart => exact ⟨0, by decide, rfl, rfl, rfl, rfl, rfl⟩
  case round =>
    obtain ⟨k, hk, rfl, rfl, rfl, rfl, rfl⟩ := hrel
    match k, hk with
    | 0, _ =>
      go_wp2_with fail
      refine (refLeft_16 _ w1).mono ?_
      rintro e w2 ⟨rfl, rfl⟩
      go_wp2_with fail
      exact ⟨⟨1, by decide, rfl, rfl, rfl, rfl, rfl⟩, by simp [intOf]⟩
    | 1, _ =>
      go_wp2_with fail
      refine (refLeft_12 _ w1).mono ?_
      rintro e w2 ⟨rfl, rfl⟩
      go_wp2_with fail
      exact ⟨⟨2, by decide, rfl, rfl, rfl, rfl, rfl⟩, by simp [intOf]⟩
    | 2, _ =>
      go_wp2_with fail
      refine (refLeft_8 _ w1).mono ?_
      rintro e w2 ⟨rfl, rfl⟩
      go_wp2_with fail
      exact ⟨⟨3, by decide, rfl, rfl, rfl, rfl, rfl⟩, by simp [intOf]⟩
    | 3, _ =>
      go_wp2_with fail
      refine (refLeft_7 _ w1).mono ?_
      rintro e w2 ⟨rfl, rfl⟩
      go_wp2_with fail
      exact ⟨⟨4, by decide, rfl, rfl, rfl, rfl, rfl⟩, by simp [intOf]⟩
    | 4, _ =>
      go_wp2_with fail
      refine bodyPost_ret (results_tmp4 rfl _ _ _) rfl ?_
      exact ⟨rfl, B1.out⟩
    | k + 5, h => exact absurd h (by omega)

theorem or_step (x y : UInt32) (i : Nat) (hi : i < 32) (hx : x.toNat < 2 ^ i) (hy : y.toNat * 2 ^ i < 4294967296) : (x ||| y <<< UInt32.ofNat i).toNat = x.toNat + y.toNat * 2 ^ i := by
  have e : (y <<< UInt32.ofNat i).toNat = y.toNat <<< i := by
    have hm : i % 4294967296 % 32 = i := by omega
    simp only [UInt32.toNat_shiftLeft, UInt32.toNat_ofNat', hm]
    rw [Nat.mod_eq_of_lt (by rw [Nat.shiftLeft_eq]; exact hy)]
  rw [UInt32.toNat_or, e, Nat.or_comm, ← Nat.shiftLeft_add_eq_or_of_lt hx, Nat.shiftLeft_eq, Nat.add_comm]
theorem lword_nat (a b c d : UInt8) : (lword [a, b, c, d]).toNat = a.toNat + b.toNat * 256 + c.toNat * 65536 + d.toNat * 16777216 := by
  have ha := a.toNat_lt
  have hb := b.toNat_lt
  have hc := c.toNat_lt
  have hd := d.toNat_lt
  have s1 := or_step a.toUInt32 b.toUInt32 8 (by decide) (by simp; omega) (by simp; omega)
  have s2 := or_step (a.toUInt32 ||| b.toUInt32 <<< UInt32.ofNat 8) c.toUInt32 16 (by decide) (by rw [s1]; simp; omega) (by simp; omega)
  have s3 := or_step (a.toUInt32 ||| b.toUInt32 <<< UInt32.ofNat 8 ||| c.toUInt32 <<< UInt32.ofNat 16) d.toUInt32 24 (by decide) (by rw [s2, s1]; simp; omega) (by simp; omega)
  have e : lword [a, b, c, d] = a.toUInt32 ||| b.toUInt32 <<< UInt32.ofNat 8 ||| c.toUInt32 <<< UInt32.ofNat 16 ||| d.toUInt32 <<< UInt32.ofNat 24 := rfl
  rw [e, s3, s2, s1]
  simp
theorem lword_sum (a b c d : UInt8) : d.toUInt32 * 16777216 + c.toUInt32 * 65536 + b.toUInt32 * 256 + a.toUInt32 = lword [a, b, c, d] := by
  have ha := a.toNat_lt
  have hb := b.toNat_lt
  have hc := c.toNat_lt
  have hd := d.toNat_lt
  apply UInt32.toNat_inj.1
  rw [lword_nat]
  simp
  omega

set_option maxHeartbeats 1000000 in
theorem refWord_any (b off cap : Nat) (c0 c1 c2 c3 : UInt8) (w : World) (k0 : w.cell? ⟨b, off, none⟩ = some (.int .u8 (c0.toNat : Int))) (k1 : w.cell? ⟨b, off + 1, none⟩ = some (.int .u8 (c1.toNat : Int)))
    (k2 : w.cell? ⟨b, off + 2, none⟩ = some (.int .u8 (c2.toNat : Int))) (k3 : w.cell? ⟨b, off + 3, none⟩ = some (.int .u8 (c3.toNat : Int))) :
    Calls Try.prog 48 #[.slice (some ⟨b, off, none⟩) 4 cap] w fun e w' => e = .returned (wd (lword [c0, c1, c2, c3])) ∧ w'.heap = w.heap ∧ Below w.heap.size w w' := by
  obtain ⟨r1, -, -, -, -⟩ := rules_w
  have m24 := run_mul 16777216 (by decide) 16777216 rfl
  have m16 := run_mul 65536 (by decide) 65536 rfl
  have m8 := run_mul 256 (by decide) 256 rfl
  have HW := Lib.hid (lword_sum c0 c1 c2 c3)
  have bw : ∀ c : UInt8, Value.int .u32 (IntKind.u32.wrap (c.toNat : Int)) = wd c.toUInt32 := fun c => by
    have := c.toNat_lt
    rw [IntWalk.u32_in _ (by omega)]
    exact byte_wd c
  have K0 := Lib.hid k0
  have K1 := Lib.hid k1
  have K2 := Lib.hid k2
  have K3 := Lib.hid k3
  clear k0 k1 k2 k3
  go_enter Try.func48, Try.ntmps48
  go_wp2_with fail
  refine still_all (by kernel_rfl) (by kernel_rfl) fun w1 h1 b1 => ?_
  have k0 : w1.cell? ⟨b, off, none⟩ = some (.int .u8 (c0.toNat : Int)) := (World.cell?_of_block (by rw [h1])).trans K0.out
  have k1 : w1.cell? ⟨b, off + 1, none⟩ = some (.int .u8 (c1.toNat : Int)) := (World.cell?_of_block (by rw [h1])).trans K1.out
  have k2 : w1.cell? ⟨b, off + 2, none⟩ = some (.int .u8 (c2.toNat : Int)) := (World.cell?_of_block (by rw [h1])).trans K2.out
  have k3 : w1.cell? ⟨b, off + 3, none⟩ = some (.int .u8 (c3.toNat : Int)) := (World.cell?_of_block (by rw [h1])).trans K3.out
  repeat still_step
  refine wpStill_nil ?_
  have H1 := Lib.hid h1
  have B1 := Lib.hid b1
  clear h1 b1 k0 k1 k2 k3
  go_wp2
  go_ret
  exact ⟨congrArg (fun z => Ending.returned (wd z)) HW.out, H1.out, B1.out⟩
end Go.Proofs.Ytaobehhekdfkkaa
