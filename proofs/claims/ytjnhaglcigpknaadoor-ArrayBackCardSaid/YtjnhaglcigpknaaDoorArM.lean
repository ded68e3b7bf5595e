/-
  WHAT AN ARRAY IS IN MEMORY: its own block, a map of pointers, entries linked one behind the other; what may change, and what stays.
-/
import Derived.Test.YtjnhaglcigpknaaDoorDkM
import Derived.Test.YtjnhaglcigpknaaDoorCellW2
import Derived.WalkMore
import Derived.ScopeJumps
import Derived.IntWalk
import Derived.RegionTactic
import Derived.ChangeAlike
import Derived.Deep.RegionLaw
import Derived.Deep.RegionHeld3
import Derived.Lib.Hide
import Derived.Laws.AppendOwn
import Derived.Maps.AppendAt
import Derived.OwnWalk
namespace Go.Proofs.YtjnhaglcigpknaaDoor
open Go.RowKit Go.Maps

/-- Blocks but F stand as they were. -/
structure Oth (F : Nat → Prop) (w w' : World) : Prop where
  os : w'.os = w.os
  tape : w'.tape = w.tape
  output : w'.output = w.output
  size : w.heap.size ≤ w'.heap.size
  block : ∀ k, k < w.heap.size → ¬ F k → w'.heap[k]? = w.heap[k]?
theorem Oth.refl (F : Nat → Prop) (w : World) : Oth F w w := ⟨rfl, rfl, rfl, Nat.le_refl _, fun _ _ _ => rfl⟩
theorem Oth.trans {F : Nat → Prop} {a b c : World} (h : Oth F a b) (k : Oth F b c) : Oth F a c :=
  ⟨k.os.trans h.os, k.tape.trans h.tape, k.output.trans h.output, Nat.le_trans h.size k.size, fun i hi hn => (k.block i (Nat.lt_of_lt_of_le hi h.size) hn).trans (h.block i hi hn)⟩
theorem Oth.of_below {F : Nat → Prop} {w w' : World} {B : Nat} (h : Below B w w') (hB : w.heap.size ≤ B) : Oth F w w' := ⟨h.os, h.tape, h.output, h.size, fun k hk _ => h.block k (Nat.lt_of_lt_of_le hk hB)⟩
theorem Oth.next {F : Nat → Prop} {a w w' : World} (h : Oth F a w) (hb : Below w.heap.size w w') : Oth F a w' := h.trans (.of_below hb (Nat.le_refl _))
theorem Oth.setCell {F : Nat → Prop} {a w : World} (h : Oth F a w) {p : Addr} (hp : F p.block ∨ a.heap.size ≤ p.block) (v : Value) : Oth F a (w.setCell p v) :=
  ⟨h.os, h.tape, h.output, by rw [World.size_setCell]; exact h.size, fun k hk hn => (Below.heap_setCell w p v k (fun e => hp.elim (fun hp => hn (e ▸ hp)) (fun hp => by omega))).trans (h.block k hk hn)⟩
theorem Oth.grown {F : Nat → Prop} {a w w' : World} {row : Option Nat} (h : Oth F a w) (hg : w.grownBy w' row) (hr : ∀ k, row = some k → F k ∨ a.heap.size ≤ k) : Oth F a w' :=
  ⟨hg.os.trans h.os, hg.tape.trans h.tape, hg.output.trans h.output, Nat.le_trans h.size hg.size, fun k hk hn => (hg.block k (Nat.lt_of_lt_of_le hk h.size) (fun e => (hr k e.symm).elim (fun h2 => hn h2) (fun h2 => by omega))).trans (h.block k hk hn)⟩
theorem Oth.below {F : Nat → Prop} {w w' : World} (h : Oth F w w') {B : Nat} (hB : ∀ k, F k → B ≤ k) (hs : B ≤ w.heap.size) : Below B w w' :=
  ⟨h.os, h.tape, h.output, h.size, fun k hk => h.block k (by omega) (fun e => by have := hB k e; omega)⟩
/-- What was F's, and what is new. -/
def Fn (F : Nat → Prop) (w : World) : Nat → Prop := fun k => F k ∨ w.heap.size ≤ k
theorem Oth.more {F : Nat → Prop} {a b c : World} (h : Oth F a b) (k : Oth (Fn F a) b c) : Oth F a c :=
  ⟨k.os.trans h.os, k.tape.trans h.tape, k.output.trans h.output, Nat.le_trans h.size k.size, fun i hi hn => (k.block i (Nat.lt_of_lt_of_le hi h.size) (fun e => e.elim (fun e => hn e) (fun e => by omega))).trans (h.block i hi hn)⟩
theorem setCell_block {w : World} {b i : Nat} {cur : Array Value} {e : TypeId} {fz : Nat × Nat} (h : w.heap[b]? = some (.cells cur e fz)) (v : Value) :
    (w.setCell ⟨b, i, none⟩ v).heap[b]? = some (.cells (cur.setIfInBounds i v) e fz) := by
  have hlt : b < w.heap.size := (Array.getElem?_eq_some_iff.1 h).1
  have hv : w.heap[b] = .cells cur e fz := (Array.getElem?_eq_some_iff.1 h).2
  unfold World.setCell
  rw [Array.getElem?_eq_getElem (by simpa using hlt), Array.getElem_modify]
  simp [hv]
theorem block_cell {w : World} {b i : Nat} {cur : Array Value} {e : TypeId} {fz : Nat × Nat} (h : w.heap[b]? = some (.cells cur e fz)) : w.cell? ⟨b, i, none⟩ = cur[i]? := by
  simp [World.cell?, h]
theorem block_frozen {w : World} {b i : Nat} {cur : Array Value} {e : TypeId} (h : w.heap[b]? = some (.cells cur e (0, 0))) : w.frozen? ⟨b, i, none⟩ = false := by
  simp [World.frozen?, h]
theorem block_lt {w : World} {b : Nat} {o : Obj} (h : w.heap[b]? = some o) : b < w.heap.size := (Array.getElem?_eq_some_iff.1 h).1
theorem heap_new (w : World) (o : Obj) : (w.alloc o).heap[w.heap.size]? = some o := by
  show (w.heap.push _)[w.heap.size]? = _
  exact Array.getElem?_push_size

/-! Values, entries, chains of entries. -/
structure Ce where
  k : Int
  n : Int
  s : ByteArray
def Ce.vals (t : Ce) : List Value := [.int .i64 t.k, .int .i64 t.n, .string t.s]
def zc : Ce := ⟨0, 0, ⟨#[]⟩⟩
structure En where
  key : ByteArray
  c : Ce
  g : Nat
def ptr : Option Nat → Value
  | none => .pointer none
  | some g => .pointer (some ⟨g, 0, none⟩)
theorem ptr_none : ptr none = .pointer none := rfl
theorem ptr_some (g : Nat) : ptr (some g) = .pointer (some ⟨g, 0, none⟩) := rfl
def hd (L : List En) (q : Option Nat) : Option Nat := match L with | [] => q | e :: _ => some e.g
def lst (L : List En) (p : Option Nat) : Option Nat := match L with | [] => p | e :: r => lst r (some e.g)
def EnAt (w : World) (e : En) (p q : Option Nat) : Prop :=
  w.heap[e.g]? = some (.cells #[.string e.key, .int .i64 e.c.k, .int .i64 e.c.n, .string e.c.s, ptr p, ptr q] 58 (0, 0))
/-- Entries one behind the other, from what lies ahead to what lies behind. -/
def Lnk (w : World) : Option Nat → List En → Option Nat → Prop
  | _, [], _ => True
  | p, e :: r, q => EnAt w e p (hd r q) ∧ Lnk w (some e.g) r q
theorem hd_append (A B : List En) (q : Option Nat) : hd (A ++ B) q = hd A (hd B q) := by cases A <;> rfl
theorem lst_append : ∀ (A B : List En) (p : Option Nat), lst (A ++ B) p = lst B (lst A p)
  | [], _, _ => rfl
  | _ :: A, B, _ => lst_append A B _
theorem Lnk_append {w : World} : ∀ (A B : List En) (p q : Option Nat), Lnk w p (A ++ B) q ↔ Lnk w p A (hd B q) ∧ Lnk w (lst A p) B q
  | [], B, p, q => by simp [Lnk, lst]
  | e :: A, B, p, q => by
    show EnAt w e p (hd (A ++ B) q) ∧ Lnk w (some e.g) (A ++ B) q ↔ (EnAt w e p (hd A (hd B q)) ∧ Lnk w (some e.g) A (hd B q)) ∧ Lnk w (lst A (some e.g)) B q
    rw [hd_append, Lnk_append A B, and_assoc]
theorem EnAt.kept {w w' : World} {e : En} {p q : Option Nat} (h : EnAt w e p q) (hk : w'.heap[e.g]? = w.heap[e.g]?) : EnAt w' e p q := hk.trans h
theorem Lnk.kept {w w' : World} : ∀ {L : List En} {p q : Option Nat}, Lnk w p L q → (∀ e ∈ L, w'.heap[e.g]? = w.heap[e.g]?) → Lnk w' p L q
  | [], _, _, _, _ => trivial
  | e :: r, p, q, h, hk => ⟨h.1.kept (hk e (by simp)), Lnk.kept h.2 fun e he => hk e (List.mem_cons_of_mem _ he)⟩
theorem Lnk.lt {w : World} : ∀ {L : List En} {p q : Option Nat}, Lnk w p L q → ∀ e ∈ L, e.g < w.heap.size ∧ ∃ p' q', EnAt w e p' q'
  | [], _, _, _, e, he => by cases he
  | x :: r, p, q, h, e, he => by
    rcases List.mem_cons.1 he with rfl | he
    · exact ⟨block_lt h.1, _, _, h.1⟩
    · exact h.2.lt e he
/-- The last one's successor is another. -/
theorem Lnk.setEnd {w : World} {A : List En} {e : En} {p q : Option Nat} (h : Lnk w p (A ++ [e]) q) (hn : ∀ x ∈ A, x.g ≠ e.g) (x : Option Nat) : Lnk (w.setCell ⟨e.g, 5, none⟩ (ptr x)) p (A ++ [e]) x := by
  obtain ⟨h1, h2⟩ := (Lnk_append A [e] p q).1 h
  refine (Lnk_append A [e] p x).2 ⟨h1.kept fun y hy => Below.heap_setCell w _ _ y.g (hn y hy), ?_, trivial⟩
  exact setCell_block h2.1 _
/-- The first one's predecessor is another. -/
theorem Lnk.setHead {w : World} {B : List En} {e : En} {p q : Option Nat} (h : Lnk w p (e :: B) q) (hn : ∀ x ∈ B, x.g ≠ e.g) (x : Option Nat) : Lnk (w.setCell ⟨e.g, 4, none⟩ (ptr x)) x (e :: B) q :=
  ⟨setCell_block h.1 _, h.2.kept fun y hy => Below.heap_setCell w _ _ y.g (hn y hy)⟩
def put3 (w : World) (g : Nat) (t : Ce) : World := ((w.setCell ⟨g, 1, none⟩ (.int .i64 t.k)).setCell ⟨g, 2, none⟩ (.int .i64 t.n)).setCell ⟨g, 3, none⟩ (.string t.s)
theorem put3_other (w : World) (g : Nat) (t : Ce) {k : Nat} (h : k ≠ g) : (put3 w g t).heap[k]? = w.heap[k]? := by
  unfold put3
  rw [Below.heap_setCell _ _ _ k h, Below.heap_setCell _ _ _ k h, Below.heap_setCell _ _ _ k h]
theorem EnAt.put {w : World} {e : En} {p q : Option Nat} (h : EnAt w e p q) (t : Ce) : EnAt (put3 w e.g t) { e with c := t } p q :=
  setCell_block (i := 3) (setCell_block (i := 2) (setCell_block (i := 1) h _) _) _
theorem Lnk.put {w : World} {A B : List En} {e : En} {p q : Option Nat} (h : Lnk w p (A ++ e :: B) q) (hA : ∀ x ∈ A, x.g ≠ e.g) (hB : ∀ x ∈ B, x.g ≠ e.g) (t : Ce) : Lnk (put3 w e.g t) p (A ++ { e with c := t } :: B) q := by
  obtain ⟨h1, h2, h3⟩ := (Lnk_append A (e :: B) p q).1 h
  exact (Lnk_append A _ p q).2 ⟨h1.kept fun y hy => put3_other w e.g t (hA y hy), h2.put t, h3.kept fun y hy => put3_other w e.g t (hB y hy)⟩

/-- Where a key lies. -/
def fnd (L : List En) (n : Nm) : Option Nat := (L.find? (fun e => e.key.data.toList == n)).map En.g
structure AV (w : World) (b : Nat) (mm : Option Nat) (L : List En) : Prop where
  blk : w.heap[b]? = some (.cells #[.map mm, ptr (hd L none), ptr (lst L none)] 43 (0, 0))
  lnk : Lnk w none L none
  map : match mm with
    | none => L = []
    | some mn => ∃ D, w.ownsMap Tryd.prog 9 ptrE mn 2000 (dat D) ∧ Srt D ∧ D.length = L.length ∧ ∀ n, getD D n = fnd L n
  nd : (L.map En.g).Nodup
  kd : (L.map (fun e => e.key.data.toList)).Nodup
  few : L.length ≤ 1000
/-- The array's blocks. -/
def Own (b : Nat) (mm : Option Nat) (L : List En) (k : Nat) : Prop := k = b ∨ mm = some k ∨ ∃ e ∈ L, e.g = k
theorem ownsMap_of_block {H : Type} {P : Program} {k : TypeId} {R : Value → Option (DataW H × List MemPlace)} {w w' : World} {b n : Nat} {D : DataW H} (h : w.ownsMap P k R b n D) (e : w'.heap[b]? = w.heap[b]?) : w'.ownsMap P k R b n D := by
  obtain ⟨es, clock, hb, F, hs, hD⟩ := h
  exact ⟨es, clock, e.trans hb, F, hs, hD⟩
theorem ownsMap_block {H : Type} {P : Program} {k : TypeId} {R : Value → Option (DataW H × List MemPlace)} {w : World} {b n : Nat} {D : DataW H} (h : w.ownsMap P k R b n D) : ∃ es clock, w.heap[b]? = some (.map es clock) := by
  obtain ⟨es, clock, hb, _⟩ := h
  exact ⟨es, clock, hb⟩
theorem ownsMap_tight {w : World} {b n : Nat} {l : Dir} (h : w.ownsMap Tryd.prog 9 ptrE b n (dat l)) {m : Nat} (hm : l.length ≤ m) : w.ownsMap Tryd.prog 9 ptrE b m (dat l) := by
  obtain ⟨es, clock, hb, F, hs, hD⟩ := h
  refine ⟨es, clock, hb, F, ?_, hD⟩
  have e := congrArg Maps.size hD
  rw [dat_size] at e
  simp only [Maps.size, length_sorted, List.length_map, Array.length_toList] at e
  omega
theorem cells_ne {w : World} {b c : Nat} {x y : Array Value} {t u : TypeId} (hb : w.heap[b]? = some (.cells x t (0, 0))) (hc : w.heap[c]? = some (.cells y u (0, 0))) (h : t ≠ u) : b ≠ c := by
  intro e
  rw [e, hc] at hb
  simp at hb
  exact h hb.2.symm
theorem cells_ne_map {w : World} {b c : Nat} {x : Array Value} {t : TypeId} {H : Type} {P : Program} {k : TypeId} {R : Value → Option (DataW H × List MemPlace)} {n : Nat} {D : DataW H} (hb : w.heap[b]? = some (.cells x t (0, 0))) (hc : w.ownsMap P k R c n D) : b ≠ c := by
  intro e
  obtain ⟨es, cl, hm⟩ := ownsMap_block hc
  rw [e, hm] at hb
  simp at hb
section
variable {w w' : World} {b : Nat} {mm : Option Nat} {L : List En}
theorem AV.own_lt (h : AV w b mm L) {k : Nat} (hk : Own b mm L k) : k < w.heap.size := by
  rcases hk with rfl | rfl | ⟨e, he, rfl⟩
  · exact block_lt h.blk
  · obtain ⟨D, hm, _⟩ := h.map
    exact hm.lt
  · exact (h.lnk.lt e he).1
theorem AV.kept (h : AV w b mm L) (hk : ∀ k, Own b mm L k → w'.heap[k]? = w.heap[k]?) : AV w' b mm L := by
  refine ⟨(hk b (.inl rfl)).trans h.blk, h.lnk.kept fun e he => hk _ (.inr (.inr ⟨e, he, rfl⟩)), ?_, h.nd, h.kd, h.few⟩
  cases mm with
  | none => exact h.map
  | some mn =>
    obtain ⟨D, h1, h2⟩ := h.map
    exact ⟨D, ownsMap_of_block h1 (hk mn (.inr (.inl rfl))), h2⟩
theorem AV.next (h : AV w b mm L) (hb : Below w.heap.size w w') : AV w' b mm L := h.kept fun k hk => hb.block k (h.own_lt hk)
theorem AV.oth (h : AV w b mm L) {F : Nat → Prop} (ho : Oth F w w') (hF : ∀ k, Own b mm L k → ¬ F k) : AV w' b mm L := h.kept fun k hk => ho.block k (h.own_lt hk) (hF k hk)
theorem AV.enne (h : AV w b mm L) {e : En} (he : e ∈ L) : e.g ≠ b := by
  obtain ⟨_, p, q, h2⟩ := h.lnk.lt e he
  exact cells_ne h2 h.blk (by decide)
theorem AV.enmap {mn : Nat} (h : AV w b (some mn) L) {e : En} (he : e ∈ L) : e.g ≠ mn := by
  obtain ⟨_, p, q, h2⟩ := h.lnk.lt e he
  obtain ⟨D, hm, _⟩ := h.map
  exact cells_ne_map h2 hm
theorem AV.bmap {mn : Nat} (h : AV w b (some mn) L) : b ≠ mn := by
  obtain ⟨D, hm, _⟩ := h.map
  exact cells_ne_map h.blk hm
end
end Go.Proofs.YtjnhaglcigpknaaDoor
