/-
  CONTRACTS of layer 16's records: how one lies in memory; Load (where one byte parts), Count, Text.
-/
import Derived.Test.YtllbnbnpcogckaaGreatDoorInW2
namespace Go.Proofs.YtllbnbnpcogckaaGreatDoor
open Go.RowKit

/-- Of what lay in memory block b alone has turned. -/
structure Onl (b : Nat) (w w' : World) : Prop where
  os : w'.os = w.os
  tape : w'.tape = w.tape
  output : w'.output = w.output
  size : w.heap.size ≤ w'.heap.size
  block : ∀ k, k < w.heap.size → k ≠ b → w'.heap[k]? = w.heap[k]?
theorem Onl.refl (b : Nat) (w : World) : Onl b w w := ⟨rfl, rfl, rfl, Nat.le_refl _, fun _ _ _ => rfl⟩
theorem Onl.trans {b : Nat} {u v w : World} (h : Onl b u v) (k : Onl b v w) : Onl b u w :=
  ⟨k.os.trans h.os, k.tape.trans h.tape, k.output.trans h.output, Nat.le_trans h.size k.size, fun i hi hne => (k.block i (Nat.lt_of_lt_of_le hi h.size) hne).trans (h.block i hi hne)⟩
theorem Onl.setCell {b : Nat} {u w : World} (h : Onl b u w) (o : Nat) (v : Value) : Onl b u (w.setCell ⟨b, o, none⟩ v) := by
  refine h.trans ⟨rfl, rfl, rfl, Nat.le_of_eq (World.size_setCell _ _ _).symm, fun k _ hne => Below.heap_setCell w _ v k hne⟩
theorem Onl.of_below {b B : Nat} {w w' : World} (h : Below B w w') (hB : w.heap.size ≤ B) : Onl b w w' :=
  ⟨h.os, h.tape, h.output, h.size, fun k hk _ => h.block k (Nat.lt_of_lt_of_le hk hB)⟩
theorem Onl.next {b : Nat} {w w1 w2 : World} (h : Onl b w w1) (hb : Below w1.heap.size w1 w2) : Onl b w w2 := h.trans (.of_below hb (Nat.le_refl _))
theorem Onl.below {b B : Nat} {w w' : World} (h : Onl b w w') (hb : B ≤ b) (hB : B ≤ w.heap.size) : Below B w w' :=
  ⟨h.os, h.tape, h.output, h.size, fun k hk => h.block k (Nat.lt_of_lt_of_le hk hB) (by omega)⟩
theorem block_set {w : World} {b i : Nat} {cur : Array Value} {e : TypeId} {fz : Nat × Nat} (h : w.heap[b]? = some (.cells cur e fz)) (v : Value) :
    (w.setCell ⟨b, i, none⟩ v).heap[b]? = some (.cells (cur.setIfInBounds i v) e fz) := by
  have hlt : b < w.heap.size := (Array.getElem?_eq_some_iff.1 h).1
  have hv : w.heap[b] = .cells cur e fz := (Array.getElem?_eq_some_iff.1 h).2
  unfold World.setCell
  rw [Array.getElem?_eq_getElem (by simpa using hlt), Array.getElem_modify]
  simp [hv]
theorem block_cell {w : World} {b i : Nat} {cur : Array Value} {e : TypeId} {fz : Nat × Nat} (h : w.heap[b]? = some (.cells cur e fz)) : w.cell? ⟨b, i, none⟩ = cur[i]? := by
  simp [World.cell?, h]
theorem block_frozen {w : World} {b i : Nat} {cur : Array Value} {e : TypeId} (h : w.heap[b]? = some (.cells cur e (0, 0))) : w.frozen? ⟨b, i, none⟩ = false := by
  simp [World.frozen?, h]
theorem block_lt {w : World} {b : Nat} {o : Obj} (h : w.heap[b]? = some o) : b < w.heap.size := (Array.getElem?_eq_some_iff.1 h).1
theorem own_kept {w w' : World} {B : Nat} {e : TypeId} {z : Nat} {v : Value} {n : Nat} {xs : List Value} (h : w.ownsRow B e z v n xs) (hk : ∀ g, v.ownBlock = some g → w'.heap[g]? = w.heap[g]?) : w'.ownsRow B e z v n xs := by
  refine ⟨h.1, ?_⟩
  rcases h.2 with h2 | ⟨g, cap, cur, rfl, hB, hgg, h3⟩
  · exact .inl h2
  · exact .inr ⟨g, cap, cur, rfl, hB, (hk g rfl).trans hgg, h3⟩
theorem own_mono {w : World} {B C : Nat} {e : TypeId} {z : Nat} {v : Value} {n : Nat} {xs : List Value} (h : w.ownsRow B e z v n xs) (hC : C ≤ B) : w.ownsRow C e z v n xs := by
  refine ⟨h.1, ?_⟩
  rcases h.2 with h2 | ⟨g, cap, cur, rfl, hB, h3⟩
  · exact .inl h2
  · exact .inr ⟨g, cap, cur, rfl, Nat.le_trans hC hB, h3⟩

/-! Values of the language, rows of them. -/
structure Ce where
  k : Int
  n : Int
  s : ByteArray
def Ce.vals (t : Ce) : List Value := [.int .i64 t.k, .int .i64 t.n, .string t.s]
def zc : Ce := ⟨0, 0, ⟨#[]⟩⟩
/-- A text from outside. -/
def inC (s : ByteArray) : Ce := ⟨inK s.data.toList, inN s.data.toList, s⟩
def ceRow (l : List Ce) : List Value := l.flatMap Ce.vals
theorem ceRow_append (a b : List Ce) : ceRow (a ++ b) = ceRow a ++ ceRow b := by simp [ceRow]
theorem ceRow_cons (a : Ce) (b : List Ce) : ceRow (a :: b) = .int .i64 a.k :: .int .i64 a.n :: .string a.s :: ceRow b := by simp [ceRow, Ce.vals]
theorem ceRow_len : ∀ l : List Ce, (ceRow l).length = l.length * 3
  | [] => rfl
  | a :: l => by rw [ceRow_cons]; simp only [List.length_cons]; rw [ceRow_len l]; omega
theorem ceRow_get : ∀ (l : List Ce) (i j : Nat) (h : i < l.length), j < 3 → (ceRow l)[i * 3 + j]? = l[i].vals[j]?
  | [], _, _, h, _ => absurd h (by simp)
  | t :: l, 0, j, _, hj => by
    show (t.vals ++ ceRow l)[0 * 3 + j]? = t.vals[j]?
    rw [List.getElem?_append_left (by show 0 * 3 + j < 3; omega), show 0 * 3 + j = j from by omega]
  | t :: l, i + 1, j, h, hj => by
    show (t.vals ++ ceRow l)[(i + 1) * 3 + j]? = (l[i]'(by simpa using h)).vals[j]?
    rw [List.getElem?_append_right (by show 3 ≤ (i + 1) * 3 + j; omega), show (i + 1) * 3 + j - t.vals.length = i * 3 + j from by show (i + 1) * 3 + j - 3 = _; omega]
    exact ceRow_get l i j (by simpa using h) hj
theorem set3 : ∀ (X Y : List Value) (a b c x y z : Value) (n : Nat), X.length = n → (((X ++ a :: b :: c :: Y).set n x).set (n + 1) y).set (n + 2) z = X ++ x :: y :: z :: Y
  | [], Y, a, b, c, x, y, z, n, h => by
    obtain rfl : n = 0 := by simpa using h.symm
    simp
  | t :: X, Y, a, b, c, x, y, z, n, h => by
    obtain ⟨m, rfl⟩ : ∃ m, n = m + 1 := ⟨X.length, by simpa using h.symm⟩
    have := set3 X Y a b c x y z m (by simpa using h)
    simpa using this
theorem ceRow_set (A R : List Ce) (z t : Ce) : (((ceRow (A ++ z :: R)).set (A.length * 3) (.int .i64 t.k)).set (A.length * 3 + 1) (.int .i64 t.n)).set (A.length * 3 + 2) (.string t.s) = ceRow (A ++ t :: R) := by
  rw [ceRow_append, ceRow_append, ceRow_cons, ceRow_cons]
  exact set3 _ _ _ _ _ _ _ _ _ (ceRow_len A)
theorem Tryz.infoCe : (Tryz.prog.info? 42).map (fun i => (i.zero, i.size, i.bytes)) = some (some (.agg #[.int .i64 0, .int .i64 0, .string ⟨#[]⟩]), 3, 32) := by kernel_rfl
theorem info_parts {o : Option TypeInfo} {z : Value} {s b : Nat} (h : o.map (fun i => (i.zero, i.size, i.bytes)) = some (some z, s, b)) : ∃ i, o = some i ∧ i.zero = some z ∧ i.size = s ∧ i.bytes = b := by
  cases o with
  | none => cases h
  | some i => simp at h; exact ⟨i, rfl, h.1, h.2.1, h.2.2⟩
theorem made_get (z : Array Value) (n i : Nat) (h : i < n) : (madeCells z n)[i]? = some z[i % z.size]! := by
  unfold madeCells
  simp [h]
/-- So many new values. -/
def zRow (n : Nat) : Array Value := (ceRow (List.replicate n zc)).toArray
theorem made_z (n : Nat) : madeCells (Value.agg #[.int .i64 0, .int .i64 0, .string ⟨#[]⟩]).cells (n * 3) = zRow n := by
  apply Array.ext
  · rw [size_madeCells]; unfold zRow; rw [List.size_toArray, ceRow_len, List.length_replicate]
  · intro i h1 h2
    have hi : i < n * 3 := by rw [size_madeCells] at h1; exact h1
    have hd : i = i / 3 * 3 + i % 3 := by omega
    have hk : i / 3 < (List.replicate n zc).length := by rw [List.length_replicate]; omega
    have hg := ceRow_get (List.replicate n zc) (i / 3) (i % 3) hk (by omega)
    rw [← hd, List.getElem_replicate] at hg
    have e1 : (zRow n)[i]? = zc.vals[i % 3]? := by unfold zRow; rw [List.getElem?_toArray]; exact hg
    rw [Array.getElem?_eq_getElem h2] at e1
    have e2 : (madeCells (Value.agg #[.int .i64 0, .int .i64 0, .string ⟨#[]⟩]).cells (n * 3))[i] = (Value.agg #[.int .i64 0, .int .i64 0, .string ⟨#[]⟩]).cells[i % 3]! := by
      have := made_get (Value.agg #[.int .i64 0, .int .i64 0, .string ⟨#[]⟩]).cells (n * 3) i hi
      rw [Array.getElem?_eq_getElem h1] at this
      exact Option.some.inj this
    rw [e2]
    have h3 : i % 3 = 0 ∨ i % 3 = 1 ∨ i % 3 = 2 := by omega
    rcases h3 with h3 | h3 | h3 <;> rw [h3] at e1 ⊢ <;> simp [zc, Ce.vals] at e1 <;> rw [e1] <;> rfl
theorem make_z (n : Nat) (hn : n ≤ 100000) (W : World) : (Instr.makeSlice 33 (.int .i64 (n : Int)) (.int .i64 (n : Int))).run Tryz.prog W = .ok (.slice (some ⟨W.heap.size, 0, none⟩) n n) (W.alloc (.cells (zRow n) 42)) := by
  obtain ⟨i0, hi, hz0, hz1, hz2⟩ := info_parts Tryz.infoCe
  have h := run_make (P := Tryz.prog) W 33 42 i0 _ Tryz.underlying33 hi hz0 .i64 .i64 (n : Int) (n : Int) (by omega) (Int.le_refl _) (by rw [hz2]; omega) (by omega)
  rw [hz1, Int.toNat_natCast, made_z] at h
  exact h
theorem own_z (n : Nat) (hn : n ≤ 100000) (W : World) {B : Nat} (hB : B ≤ W.heap.size) : (W.alloc (.cells (zRow n) 42)).ownsRow B 42 3 (.slice (some ⟨W.heap.size, 0, none⟩) n n) n (ceRow (List.replicate n zc)) := by
  refine ⟨by rw [ceRow_len, List.length_replicate], .inr ⟨W.heap.size, n, zRow n, rfl, hB, ?_, Nat.le_refl _, by unfold maxLen; omega, by unfold zRow; rw [List.size_toArray, ceRow_len, List.length_replicate], ?_⟩⟩
  · show (W.heap.push _)[W.heap.size]? = _
    exact Array.getElem?_push_size
  · unfold zRow
    rw [List.take_of_length_le (by rw [List.toList_toArray, ceRow_len, List.length_replicate]; exact Nat.le_refl _)]

/-- A record in block b: its text, its fields. -/
structure Rec (w : World) (b : Nat) (s : ByteArray) (l : List Ce) (v : Value) : Prop where
  blk : w.heap[b]? = some (.cells #[.string s, v] 35 (0, 0))
  row : w.ownsRow 0 42 3 v l.length (ceRow l)
  ne : ∀ g, v.ownBlock = some g → g ≠ b
theorem Rec.lt {w : World} {b : Nat} {s : ByteArray} {l : List Ce} {v : Value} (h : Rec w b s l v) : b < w.heap.size := block_lt h.blk
theorem Rec.next {w w' : World} {b : Nat} {s : ByteArray} {l : List Ce} {v : Value} (h : Rec w b s l v) (hb : Below w.heap.size w w') : Rec w' b s l v :=
  ⟨(hb.block b h.lt).trans h.blk, own_next h.row hb, h.ne⟩
/-- What a call leaves that lays a record anew: its number, the record, of what lay there nothing else turned. -/
def LdPost (b : Nat) (s : ByteArray) (l : List Ce) (w : World) (e : Ending) (w' : World) : Prop :=
  e = .returned (.int .i64 0) ∧ ∃ v, Rec w' b s l v ∧ (∀ g, v.ownBlock = some g → w.heap.size ≤ g) ∧ Onl b w w'
/-- Its stores. -/
theorem Rec.laid {w w' : World} {b : Nat} {x y : Value} {s : ByteArray} {l : List Ce} {v : Value} (hx : w'.heap[b]? = some (.cells #[x, y] 35 (0, 0))) (hr : w'.ownsRow w.heap.size 42 3 v l.length (ceRow l)) (hb : b < w.heap.size) (ho : Onl b w w') :
    ∃ u, Rec ((w'.setCell ⟨b, 0, none⟩ (.string s)).setCell ⟨b, 1, none⟩ v) b s l u ∧ (∀ g, u.ownBlock = some g → w.heap.size ≤ g) ∧ Onl b w ((w'.setCell ⟨b, 0, none⟩ (.string s)).setCell ⟨b, 1, none⟩ v) := by
  have hlt := hr.lt
  refine ⟨v, ⟨by simpa using block_set (i := 1) (block_set (i := 0) hx (.string s)) v, own_mono (own_kept hr fun g hg => ?_) (Nat.zero_le _), fun g hg => ?_⟩, fun g hg => (hlt g hg).1, (ho.setCell 0 _).setCell 1 _⟩
  · have := (hlt g hg).1
    rw [Below.heap_setCell _ _ _ g (by show g ≠ b; omega), Below.heap_setCell _ _ _ g (by show g ≠ b; omega)]
  · have := (hlt g hg).1
    omega
end Go.Proofs.YtllbnbnpcogckaaGreatDoor
