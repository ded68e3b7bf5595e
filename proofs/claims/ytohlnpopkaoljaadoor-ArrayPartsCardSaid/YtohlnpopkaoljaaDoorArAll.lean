/-
  A ROW OF ENTRIES as layer 8's All builds it: six cells each.
-/
import Derived.Test.YtohlnpopkaoljaaDoorArKeys
namespace Go.Proofs.YtohlnpopkaoljaaDoor
open Go.RowKit Go.Shelf
attribute [local go_sem] Oper.semAt_some

/-- An entry as it was copied: its key and value, its two neighbours. -/
structure Q6 where
  e : En
  p : Option Addr
  q : Option Addr
def Q6.vals (t : Q6) : List Value := [.string t.e.key, .int .i64 t.e.c.k, .int .i64 t.e.c.n, .string t.e.c.s, .pointer t.p, .pointer t.q]
def q6 : List Q6 → List Value
  | [] => []
  | t :: l => t.vals ++ q6 l
theorem q6_append : ∀ (l m : List Q6), q6 (l ++ m) = q6 l ++ q6 m
  | [], _ => rfl
  | t :: l, m => by show t.vals ++ q6 (l ++ m) = _; rw [q6_append l m]; simp [q6]
theorem q6_get : ∀ (l : List Q6) (i j : Nat) (h : i < l.length), j < 6 → (q6 l)[i * 6 + j]? = l[i].vals[j]?
  | t :: l, 0, j, _, hj => by
    show (t.vals ++ q6 l)[0 * 6 + j]? = t.vals[j]?
    rw [List.getElem?_append_left (by show 0 * 6 + j < 6; omega), show 0 * 6 + j = j from by omega]
  | t :: l, i + 1, j, h, hj => by
    show (t.vals ++ q6 l)[(i + 1) * 6 + j]? = (l[i]'(by simpa using h)).vals[j]?
    rw [List.getElem?_append_right (by show 6 ≤ (i + 1) * 6 + j; omega), show (i + 1) * 6 + j - t.vals.length = i * 6 + j from by show (i + 1) * 6 + j - 6 = _; omega]
    exact q6_get l i j (by simpa using h) hj
/-- A variable (block bl) that holds a row of entries of the call's own; both lie in C. -/
structure Col6 (W : World) (base bl : Nat) (C : Nat → Prop) (xs : List Q6) (g c : Nat) : Prop where
  var : W.cell? ⟨bl, 0, none⟩ = some (.slice (some ⟨g, 0, none⟩) xs.length c)
  fro : W.frozen? ⟨bl, 0, none⟩ = false
  row : W.ownsRow base 61 6 (.slice (some ⟨g, 0, none⟩) xs.length c) xs.length (q6 xs)
  cb : C bl
  cg : C g
  ne : g ≠ bl
theorem Col6.same {A B : World} {base bl g c : Nat} {C : Nat → Prop} {xs : List Q6} (h : Col6 A base bl C xs g c) (hs : Same C A B) : Col6 B base bl C xs g c :=
  ⟨(hs.cell (p := ⟨bl, 0, none⟩) h.cb).trans h.var, (hs.frozen (p := ⟨bl, 0, none⟩) h.cb).trans h.fro, own_keptA h.row (fun g' hg' => by injection hg' with hg'; subst hg'; exact hs.block _ h.cg), h.cb, h.cg, h.ne⟩
theorem Col6.next {A B : World} {base bl g c : Nat} {C : Nat → Prop} {xs : List Q6} (h : Col6 A base bl C xs g c) (hb : Below A.heap.size A B) (hC : ∀ k, C k → k < A.heap.size) : Col6 B base bl C xs g c := h.same (Same.below hb hC)
/-- What a push leaves. -/
def Psh6 (W W3 : World) (base bl : Nat) (C C' : Nat → Prop) (xs : List Q6) (g c : Nat) : Prop :=
  (∀ k, C' k → C k ∨ W.heap.size ≤ k) ∧ (∀ k, C' k → k < W3.heap.size) ∧ Came C W W3 ∧ Col6 W3 base bl C' xs g c
set_option maxRecDepth 100000 in
theorem Tryd.infoEnt : (Tryd.prog.info? 61).map (fun i => (i.zero, i.size, i.bytes)) = some (some (.agg #[.string ⟨#[]⟩, .int .i64 0, .int .i64 0, .string ⟨#[]⟩, .pointer none, .pointer none]), 6, 64) := by kernel_rfl
/-- An entry's block of its own. -/
def entO (x : Q6) : Obj := .cells #[.string x.e.key, .int .i64 x.e.c.k, .int .i64 x.e.c.n, .string x.e.c.s, .pointer x.p, .pointer x.q] 61
set_option maxRecDepth 100000 in
theorem Col6.push {W : World} {base bl g c : Nat} {C : Nat → Prop} {xs : List Q6} (h : Col6 W base bl C xs g c) (x : Q6) (hl : xs.length ≤ 2000) (hC : ∀ k, C k → k < W.heap.size) (hbase : base ≤ W.heap.size) :
    ∃ W2 g' c', (Builtin.append_ #[62, 62] 62 #[.slice (some ⟨g, 0, none⟩) xs.length c, .slice (some ⟨W.heap.size, 0, none⟩) 1 1]).run Tryd.prog (W.alloc (entO x)) = .ok (.slice (some ⟨g', 0, none⟩) (xs.length + 1) c') W2 ∧
      W2.cell? ⟨bl, 0, none⟩ = some (.slice (some ⟨g, 0, none⟩) xs.length c) ∧ W2.frozen? ⟨bl, 0, none⟩ = false ∧ Psh6 W (W2.setCell ⟨bl, 0, none⟩ (.slice (some ⟨g', 0, none⟩) (xs.length + 1) c')) base bl C (fun k => C k ∨ k = g') (xs ++ [x]) g' c' := by
  obtain ⟨i0, hi, hz0, hz1, hz2⟩ := info_parts Tryd.infoEnt
  obtain ⟨v', W2, hr, hown, hgrow, hnil, hat⟩ := run_append_own_at (P := Tryd.prog) (W.alloc (entO x)) base 62 62 61 i0 _ 6 64 Tryd.underlying62 hi hz0 hz1 hz2 rfl (by decide) _ _ _ (h.row.alloc _) ⟨W.heap.size, 0, none⟩ 1 1 x.vals rfl (fun j u hj => by
    unfold entO
    match j, hj with
    | 0, hj => simp [Q6.vals] at hj; subst hj; simp [Addr.add, go_sem]
    | 1, hj => simp [Q6.vals] at hj; subst hj; simp [Addr.add, go_sem]
    | 2, hj => simp [Q6.vals] at hj; subst hj; simp [Addr.add, go_sem]
    | 3, hj => simp [Q6.vals] at hj; subst hj; simp [Addr.add, go_sem]
    | 4, hj => simp [Q6.vals] at hj; subst hj; simp [Addr.add, go_sem]
    | 5, hj => simp [Q6.vals] at hj; subst hj; simp [Addr.add, go_sem]
    | n + 6, hj => simp [Q6.vals] at hj) (by simp [Q6.vals, Value.oneCell']) (by unfold maxLen; omega) (by omega) (by simp; omega)
  obtain ⟨g', c', rfl⟩ : ∃ g' c', v' = .slice (some ⟨g', 0, none⟩) (xs.length + 1) c' := by
    rcases hown.2 with ⟨_, h0⟩ | ⟨g', cap, _, rfl, _⟩
    · omega
    · exact ⟨g', cap, rfl⟩
  have hg' : g' = g ∨ g' = W.heap.size + 1 := by
    rcases hat with h2 | h2
    · left; injection h2
    · right; injection h2 with h2; have h3 : g' = (W.alloc (entO x)).heap.size := h2; rw [h3]; simp
  have hbl := hC bl h.cb
  have hgl := (hown.lt g' rfl).2
  have eb : W2.heap[bl]? = W.heap[bl]? := (hgrow.block bl (by simp; omega) (fun e => h.ne (by injection e with e; exact e.symm))).trans (Below.heap_alloc W _ bl hbl)
  have hgL : g' ≠ bl := by
    rcases hg' with h2 | h2
    · rw [h2]; exact h.ne
    · omega
  have hs2 : W.heap.size + 1 ≤ W2.heap.size := by have := hgrow.size; simpa using this
  have v2 : W2.cell? ⟨bl, 0, none⟩ = some (.slice (some ⟨g, 0, none⟩) xs.length c) := (World.cell?_of_block (w := W) (a := ⟨bl, 0, none⟩) eb).trans h.var
  have f2 : W2.frozen? ⟨bl, 0, none⟩ = false := (World.frozen?_of_block (w := W) (a := ⟨bl, 0, none⟩) eb).trans h.fro
  refine ⟨W2, g', c', hr, v2, f2, fun k hk => ?_, fun k hk => ?_, ⟨hgrow.os, hgrow.tape, hgrow.output, by rw [World.size_setCell]; omega, fun k hk hn => ?_⟩, ⟨?_, ?_, ?_, .inl h.cb, .inr rfl, hgL⟩⟩
  · rcases hk with hk | rfl
    · exact .inl hk
    · rcases hg' with h2 | h2
      · rw [h2]; exact .inl h.cg
      · exact .inr (by omega)
  · rw [World.size_setCell]
    rcases hk with hk | rfl
    · have := hC k hk; omega
    · exact hgl
  · have n1 : k ≠ bl := fun e => hn (e ▸ h.cb)
    have n2 : k ≠ g := fun e => hn (e ▸ h.cg)
    exact (Below.heap_setCell W2 ⟨bl, 0, none⟩ _ k n1).trans ((hgrow.block k (by simp; omega) (fun e => n2 (by injection e))).trans (Below.heap_alloc W _ k hk))
  · rw [List.length_append, List.length_singleton]
    exact World.cell?_setCell_same _ _ _ v2
  · rw [World.frozen?_setCell]; exact f2
  · rw [List.length_append, List.length_singleton, q6_append]
    have e1 : q6 [x] = x.vals := by simp [q6]
    rw [e1]
    exact own_keptA hown fun k hk => by injection hk with hk; subst hk; exact Below.heap_setCell W2 ⟨bl, 0, none⟩ _ _ hgL
theorem ent_all {w : World} {b : Nat} {mm : Option Nat} {L : List En} (h : AV w b mm L) {e : En} (he : e ∈ L) : ∃ p q : Option Addr, w.heap[e.g]? = some (.cells #[.string e.key, .int .i64 e.c.k, .int .i64 e.c.n, .string e.c.s, .pointer p, .pointer q] 61 (0, 0)) ∧ e.g < w.heap.size := by
  obtain ⟨h1, p, q, h2⟩ := h.lnk.lt e he
  obtain ⟨x, hx⟩ := ptr_is p
  obtain ⟨y, hy⟩ := ptr_is q
  refine ⟨x, y, ?_, h1⟩
  have : w.heap[e.g]? = some (.cells #[.string e.key, .int .i64 e.c.k, .int .i64 e.c.n, .string e.c.s, ptr p, ptr q] 61 (0, 0)) := h2
  rw [this, hx, hy]
set_option maxRecDepth 100000 in
theorem make_ent (n : Nat) (hn : n ≤ 1000) (W : World) : ∃ cur : Array Value, cur.size = n * 6 ∧ (Instr.makeSlice 62 (.int .i64 0) (.int .i64 (n : Int))).run Tryd.prog W = .ok (.slice (some ⟨W.heap.size, 0, none⟩) 0 n) (W.alloc (.cells cur 61)) := by
  obtain ⟨i0, hi, hz0, hz1, hz2⟩ := info_parts Tryd.infoEnt
  have h := run_make (P := Tryd.prog) W 62 61 i0 _ Tryd.underlying62 hi hz0 .i64 .i64 0 (n : Int) (by omega) (by omega) (by rw [hz2]; omega) (by omega)
  rw [hz1, Int.toNat_natCast] at h
  exact ⟨_, by rw [size_madeCells], h⟩
end Go.Proofs.YtohlnpopkaoljaaDoor
