/-
  TREES of layer 9 in memory: a node as a value, a row of nodes, a tree whose rows lie in blocks of a kind; what keeps it.
-/
import Derived.Test.YtmlpkimbcjkbkaaGreatDoorRgSp
import Derived.Maps.AppendAt
import Derived.OwnWalk
namespace Go.Proofs.YtmlpkimbcjkbkaaGreatDoor
open Go.RowKit

theorem rg_own_base {w : World} {B : Nat} {e : TypeId} {z : Nat} {v : Value} {n : Nat} {xs : List Value} (h : w.ownsRow B e z v n xs) : ∀ g, v.ownBlock = some g → B ≤ g ∧ g < w.heap.size := by
  intro g hg
  rcases h.2 with ⟨rfl, _⟩ | ⟨g', cap, cur, rfl, hB, hgg, _⟩
  · simp [Value.ownBlock] at hg
  · simp [Value.ownBlock] at hg
    subst hg
    exact ⟨hB, (Array.getElem?_eq_some_iff.1 hgg).1⟩
theorem rg_own_kept {w w' : World} {B : Nat} {e : TypeId} {z : Nat} {v : Value} {n : Nat} {xs : List Value} (h : w.ownsRow B e z v n xs) (hk : ∀ g, v.ownBlock = some g → w'.heap[g]? = w.heap[g]?) : w'.ownsRow B e z v n xs := by
  refine ⟨h.1, ?_⟩
  rcases h.2 with h2 | ⟨g, cap, cur, rfl, hB, hgg, h3⟩
  · exact .inl h2
  · exact .inr ⟨g, cap, cur, rfl, hB, (hk g rfl).trans hgg, h3⟩
theorem rg_own_less {w : World} {B C : Nat} {e : TypeId} {z : Nat} {v : Value} {n : Nat} {xs : List Value} (h : w.ownsRow B e z v n xs) (hC : C ≤ B) : w.ownsRow C e z v n xs := by
  refine ⟨h.1, ?_⟩
  rcases h.2 with h2 | ⟨g, cap, cur, rfl, hB, h3⟩
  · exact .inl h2
  · exact .inr ⟨g, cap, cur, rfl, Nat.le_trans hC hB, h3⟩
theorem rg_own_form {w : World} {B : Nat} {e : TypeId} {z : Nat} {v : Value} {n : Nat} {xs : List Value} (h : w.ownsRow B e z v n xs) : ∃ p c, v = .slice p n c ∧ n ≤ c := by
  rcases h.2 with ⟨rfl, rfl⟩ | ⟨g, cap, cur, rfl, hB, _, h3, _⟩
  · exact ⟨none, 0, rfl, Nat.le_refl _⟩
  · exact ⟨_, _, rfl, h3⟩
theorem rg_own_succ {w : World} {B : Nat} {e : TypeId} {z : Nat} {v : Value} {n : Nat} {xs : List Value} (h : w.ownsRow B e z v (n + 1) xs) : ∃ g c, v = .slice (some ⟨g, 0, none⟩) (n + 1) c ∧ n + 1 ≤ c := by
  rcases h.2 with ⟨_, h0⟩ | ⟨g, cap, cur, rfl, hB, _, h3, _⟩
  · omega
  · exact ⟨_, _, rfl, h3⟩

/-- A node, as a value. -/
structure Nd where
  op : Int
  set : W4
  kp : Option Addr
  kn : Nat
  kc : Nat
def Nd.kids (n : Nd) : Value := .slice n.kp n.kn n.kc
def Nd.val (n : Nd) : Value := .agg #[.int .i64 n.op, .int .u64 n.set.a, .int .u64 n.set.b, .int .u64 n.set.c, .int .u64 n.set.d, .slice n.kp n.kn n.kc]
def Nd.vals (n : Nd) : List Value := [.int .i64 n.op, .int .u64 n.set.a, .int .u64 n.set.b, .int .u64 n.set.c, .int .u64 n.set.d, .slice n.kp n.kn n.kc]
def Nd.zero : Nd := ⟨0, W4.zero, none, 0, 0⟩
def ndRow : List Nd → List Value
  | [] => []
  | t :: l => t.vals ++ ndRow l
theorem ndRow_append : ∀ (l m : List Nd), ndRow (l ++ m) = ndRow l ++ ndRow m
  | [], _ => rfl
  | t :: l, m => by show t.vals ++ ndRow (l ++ m) = _; rw [ndRow_append l m]; simp [ndRow]
theorem ndRow_len : ∀ l : List Nd, (ndRow l).length = l.length * 6
  | [] => rfl
  | t :: l => by show (t.vals ++ ndRow l).length = _; rw [List.length_append, ndRow_len l]; simp [Nd.vals]; omega
theorem ndRow_get : ∀ (l : List Nd) (i j : Nat) (h : i < l.length), j < 6 → (ndRow l)[i * 6 + j]? = l[i].vals[j]?
  | t :: l, 0, j, _, hj => by
    show (t.vals ++ ndRow l)[0 * 6 + j]? = t.vals[j]?
    rw [List.getElem?_append_left (by show 0 * 6 + j < 6; omega), show 0 * 6 + j = j from by omega]
  | t :: l, i + 1, j, h, hj => by
    show (t.vals ++ ndRow l)[(i + 1) * 6 + j]? = (l[i]'(by simpa using h)).vals[j]?
    rw [List.getElem?_append_right (by show 6 ≤ (i + 1) * 6 + j; omega), show (i + 1) * 6 + j - t.vals.length = i * 6 + j from by show (i + 1) * 6 + j - 6 = _; omega]
    exact ndRow_get l i j (by simpa using h) hj
mutual
/-- The node is this tree's; its rows lie in blocks of the kind B. -/
def TreeN (w : World) (B : Nat → Prop) : RT → Nd → Prop
  | .mk op st ks, nd => nd.op = (op : Int) ∧ nd.set = st ∧ ∃ nds, w.ownsRow 0 45 6 nd.kids ks.length (ndRow nds) ∧ (∀ g, nd.kids.ownBlock = some g → B g) ∧ TreesN w B ks nds
def TreesN (w : World) (B : Nat → Prop) : List RT → List Nd → Prop
  | [], nds => nds = []
  | t :: ts, nds => ∃ nd rest, nds = nd :: rest ∧ TreeN w B t nd ∧ TreesN w B ts rest
end
mutual
theorem TreeN.kept {w w' : World} {B B' : Nat → Prop} (hk : ∀ g, B g → g < w.heap.size → w'.heap[g]? = w.heap[g]?) (hB : ∀ g, B g → g < w.heap.size → B' g) : ∀ (t : RT) (nd : Nd), TreeN w B t nd → TreeN w' B' t nd
  | .mk op st ks, nd, h => by
    unfold TreeN at h ⊢
    obtain ⟨h1, h2, nds, h3, h4, h5⟩ := h
    exact ⟨h1, h2, nds, rg_own_kept h3 (fun g hg => hk g (h4 g hg) (rg_own_base h3 g hg).2), fun g hg => hB g (h4 g hg) (rg_own_base h3 g hg).2, TreesN.kept hk hB ks nds h5⟩
theorem TreesN.kept {w w' : World} {B B' : Nat → Prop} (hk : ∀ g, B g → g < w.heap.size → w'.heap[g]? = w.heap[g]?) (hB : ∀ g, B g → g < w.heap.size → B' g) : ∀ (ts : List RT) (nds : List Nd), TreesN w B ts nds → TreesN w' B' ts nds
  | [], nds, h => by unfold TreesN at h ⊢; exact h
  | t :: ts, nds, h => by
    unfold TreesN at h ⊢
    obtain ⟨nd, rest, h1, h2, h3⟩ := h
    exact ⟨nd, rest, h1, TreeN.kept hk hB t nd h2, TreesN.kept hk hB ts rest h3⟩
end
theorem TreesN.len {w : World} {B : Nat → Prop} : ∀ {ts : List RT} {nds : List Nd}, TreesN w B ts nds → nds.length = ts.length
  | [], nds, h => by unfold TreesN at h; rw [h]; rfl
  | t :: ts, nds, h => by
    unfold TreesN at h
    obtain ⟨nd, rest, h1, _, h3⟩ := h
    rw [h1, List.length_cons, h3.len, List.length_cons]
theorem TreesN.snoc {w : World} {B : Nat → Prop} {t : RT} {nd : Nd} (h : TreeN w B t nd) : ∀ {ts : List RT} {nds : List Nd}, TreesN w B ts nds → TreesN w B (ts ++ [t]) (nds ++ [nd])
  | [], nds, h2 => by
    unfold TreesN at h2; subst h2
    show TreesN w B [t] [nd]
    unfold TreesN
    exact ⟨nd, [], rfl, h, by unfold TreesN; rfl⟩
  | u :: ts, nds, h2 => by
    unfold TreesN at h2
    obtain ⟨x, rest, h3, h4, h5⟩ := h2
    subst h3
    show TreesN w B (u :: (ts ++ [t])) (x :: (rest ++ [nd]))
    unfold TreesN
    exact ⟨x, rest ++ [nd], rfl, h4, h5.snoc h⟩
theorem TreesN.unsnoc {w : World} {B : Nat → Prop} {t : RT} : ∀ {ts : List RT} {nds : List Nd}, TreesN w B (ts ++ [t]) nds → ∃ nd rest, nds = rest ++ [nd] ∧ TreeN w B t nd ∧ TreesN w B ts rest
  | [], nds, h2 => by
    change TreesN w B [t] nds at h2
    unfold TreesN at h2
    obtain ⟨nd, rest, h3, h4, h5⟩ := h2
    unfold TreesN at h5
    subst h5
    exact ⟨nd, [], h3, h4, by unfold TreesN; rfl⟩
  | u :: ts, nds, h2 => by
    change TreesN w B (u :: (ts ++ [t])) nds at h2
    unfold TreesN at h2
    obtain ⟨x, rest, h3, h4, h5⟩ := h2
    obtain ⟨nd, r2, h6, h7, h8⟩ := h5.unsnoc
    exact ⟨nd, x :: r2, by rw [h3, h6]; rfl, h7, by unfold TreesN; exact ⟨x, r2, rfl, h4, h8⟩⟩
theorem TreeN.leaf (w : World) (B : Nat → Prop) (op : Nat) (st : W4) : TreeN w B (.mk op st []) ⟨op, st, none, 0, 0⟩ := by
  unfold TreeN
  exact ⟨rfl, rfl, [], World.ownsRow_nil w 0 _ 6, fun g hg => by simp [Nd.kids, Value.ownBlock] at hg, by unfold TreesN; rfl⟩
/-- What a function that reads a tree hands back. -/
def VN (n0 : Nat) (w : World) (v : Value) (t : RT) : Prop := ∃ nd : Nd, v = nd.val ∧ TreeN w (fun g => n0 ≤ g) t nd
def GN (v : Value) : Prop := ∃ nd : Nd, v = nd.val
/-- A node lies in block g. -/
def BlkN (w : World) (g : Nat) (n : Nd) : Prop := w.heap[g]? = some (.cells #[.int .i64 n.op, .int .u64 n.set.a, .int .u64 n.set.b, .int .u64 n.set.c, .int .u64 n.set.d, .slice n.kp n.kn n.kc] 45 (0, 0))
structure BlkNC (w : World) (g : Nat) (n : Nd) : Prop where
  c0 : w.cell? ⟨g, 0, none⟩ = some (.int .i64 n.op)
  c1 : w.cell? ⟨g, 1, none⟩ = some (.int .u64 n.set.a)
  c2 : w.cell? ⟨g, 2, none⟩ = some (.int .u64 n.set.b)
  c3 : w.cell? ⟨g, 3, none⟩ = some (.int .u64 n.set.c)
  c4 : w.cell? ⟨g, 4, none⟩ = some (.int .u64 n.set.d)
  c5 : w.cell? ⟨g, 5, none⟩ = some (.slice n.kp n.kn n.kc)
  f0 : w.frozen? ⟨g, 0, none⟩ = false
  f1 : w.frozen? ⟨g, 1, none⟩ = false
  f2 : w.frozen? ⟨g, 2, none⟩ = false
  f3 : w.frozen? ⟨g, 3, none⟩ = false
  f4 : w.frozen? ⟨g, 4, none⟩ = false
  f5 : w.frozen? ⟨g, 5, none⟩ = false
section
variable {w w' : World} {g b : Nat} {a : Nd}
theorem BlkN.cells (h : BlkN w g a) : BlkNC w g a := ⟨rg_cell h, rg_cell h, rg_cell h, rg_cell h, rg_cell h, rg_cell h, rg_frozen h, rg_frozen h, rg_frozen h, rg_frozen h, rg_frozen h, rg_frozen h⟩
theorem BlkN.lt (h : BlkN w g a) : g < w.heap.size := (Array.getElem?_eq_some_iff.1 h).1
theorem BlkN.drewN (h : BlkN w g a) (n : Nat) : BlkN (w.drewN n) g a := h
theorem BlkN.alloc (h : BlkN w g a) (o : Obj) : BlkN (w.alloc o) g a := (Below.heap_alloc w o g h.lt).trans h
theorem BlkN.setNew (h : BlkN w g a) {p : Addr} (hp : p.block ≠ g) (v : Value) : BlkN (w.setCell p v) g a := (Below.heap_setCell w p v g (Ne.symm hp)).trans h
theorem BlkN.below (h : BlkN w g a) (hb : Below w.heap.size w w') : BlkN w' g a := (hb.block g h.lt).trans h
theorem BlkN.onl (h : BlkN w g a) (hb : Onl b w w') (hg : g ≠ b) : BlkN w' g a := (hb.block g h.lt hg).trans h
theorem BlkN.new (w : World) : BlkN (w.alloc (.cells #[.int .i64 0, .int .u64 0, .int .u64 0, .int .u64 0, .int .u64 0, .slice none 0 0] 45)) w.heap.size Nd.zero :=
  heap_alloc_new w _
end
/-- Six stores of a node into a block. -/
def put6 (w : World) (g : Nat) (n : Nd) : World := (((((w.setCell ⟨g, 0, none⟩ (.int .i64 n.op)).setCell ⟨g, 1, none⟩ (.int .u64 n.set.a)).setCell ⟨g, 2, none⟩ (.int .u64 n.set.b)).setCell ⟨g, 3, none⟩ (.int .u64 n.set.c)).setCell ⟨g, 4, none⟩ (.int .u64 n.set.d)).setCell ⟨g, 5, none⟩ (.slice n.kp n.kn n.kc)
section
variable {u w : World} {g b : Nat}
theorem put6_block {k : Nat} (hk : k ≠ g) (n : Nd) : (put6 w g n).heap[k]? = w.heap[k]? := by
  unfold put6
  rw [Below.heap_setCell _ _ _ k hk, Below.heap_setCell _ _ _ k hk, Below.heap_setCell _ _ _ k hk, Below.heap_setCell _ _ _ k hk, Below.heap_setCell _ _ _ k hk, Below.heap_setCell _ _ _ k hk]
theorem Onl.put6 (h : Onl b u w) (hg : u.heap.size ≤ g) (n : Nd) : Onl b u (put6 w g n) :=
  (((((h.setNew hg _).setNew hg _).setNew hg _).setNew hg _).setNew hg _).setNew hg _
theorem Rg.put6 {s : ByteArray} {p op bad er : Nat} (h : Rg w b s p op bad er) (hg : g ≠ b) (n : Nd) : Rg (put6 w g n) b s p op bad er := (put6_block (Ne.symm hg) n).trans h
theorem TreeN.put6 {B : Nat → Prop} {t : RT} {nd : Nd} (h : TreeN w B t nd) (hg : ∀ k, B k → k < w.heap.size → k ≠ g) (n : Nd) : TreeN (put6 w g n) B t nd :=
  h.kept (fun k hk hl => put6_block (hg k hk hl) n) (fun _ h _ => h)
end
end Go.Proofs.YtmlpkimbcjkbkaaGreatDoor
