/-
 CONTRACTS of layer 13's small functions that look or make: node, named, isPlace, binary, valueComes, stepComes, simpleEnds, targetComes.
-/
import Derived.Test.YtmbfdkiejneheaaGreatDoorRgSp
import Derived.Maps.AppendAt
import Derived.OwnWalk
import Derived.Test.YtmbfdkiejneheaaGreatDoorPaW1
namespace Go.Proofs.YtmbfdkiejneheaaGreatDoor
open Go.RowKit

theorem rg_own_base {w : World} {B : Nat} {e : TypeId} {z : Nat} {v : Value} {n : Nat} {xs : List Value} (h : w.ownsRow B e z v n xs) : ∀ g, v.ownBlock = some g → B ≤ g ∧ g < w.heap.size := by
 intro g hg
 rcases h.2 with ⟨rfl, _⟩ | ⟨g', cap, cur, rfl, hB, hgg, _⟩
 ·
  simp [Value.ownBlock] at hg
 ·
  simp [Value.ownBlock] at hg
  subst hg
  exact ⟨hB, (Array.getElem?_eq_some_iff.1 hgg).1⟩
theorem rg_own_kept {w w' : World} {B : Nat} {e : TypeId} {z : Nat} {v : Value} {n : Nat} {xs : List Value} (h : w.ownsRow B e z v n xs) (hk : ∀ g, v.ownBlock = some g → w'.heap[g]? = w.heap[g]?) : w'.ownsRow B e z v n xs := by
 refine ⟨h.1, ?_⟩
 rcases h.2 with h2 | ⟨g, cap, cur, rfl, hB, hgg, h3⟩
 ·
  exact .inl h2
 ·
  exact .inr ⟨g, cap, cur, rfl, hB, (hk g rfl).trans hgg, h3⟩
theorem rg_own_less {w : World} {B C : Nat} {e : TypeId} {z : Nat} {v : Value} {n : Nat} {xs : List Value} (h : w.ownsRow B e z v n xs) (hC : C ≤ B) : w.ownsRow C e z v n xs := by
 refine ⟨h.1, ?_⟩
 rcases h.2 with h2 | ⟨g, cap, cur, rfl, hB, h3⟩
 ·
  exact .inl h2
 ·
  exact .inr ⟨g, cap, cur, rfl, Nat.le_trans hC hB, h3⟩
theorem rg_own_form {w : World} {B : Nat} {e : TypeId} {z : Nat} {v : Value} {n : Nat} {xs : List Value} (h : w.ownsRow B e z v n xs) : ∃ p c, v = .slice p n c ∧ n ≤ c := by
 rcases h.2 with ⟨rfl, rfl⟩ | ⟨g, cap, cur, rfl, hB, _, h3, _⟩
 ·
  exact ⟨none, 0, rfl, Nat.le_refl _⟩
 ·
  exact ⟨_, _, rfl, h3⟩
theorem rg_own_succ {w : World} {B : Nat} {e : TypeId} {z : Nat} {v : Value} {n : Nat} {xs : List Value} (h : w.ownsRow B e z v (n + 1) xs) : ∃ g c, v = .slice (some ⟨g, 0, none⟩) (n + 1) c ∧ n + 1 ≤ c := by
 rcases h.2 with ⟨_, h0⟩ | ⟨g, cap, cur, rfl, hB, _, h3, _⟩
 ·
  omega
 ·
  exact ⟨_, _, rfl, h3⟩

/-- A node, as a value. -/
structure Nd where
 op : Int
 set : W4
 kp : Option Addr
 kn : Nat
 kc : Nat
def Nd.kids (n : Nd) : Value := .slice n.kp n.kn n.kc
def Nd.val (n : Nd) : Value := .agg #[.int .i64 n.op, .int .u64 n.set.a, .int .u64 n.set.b, .int .u64 n.set.c, .int .u64 n.set.d, .slice n.kp n.kn n.kc]
def Nd.vals (n : Nd) : List Value := [.int .i64 n.op, .int .u64 n.set.a, .int .u64 n.set.b, .int .u64 n.set.c, .int .u64 n.set.d, .slice n.kp n.kn n.kc]
def Nd.zero : Nd := ⟨0, W4.zero, none, 0, 0⟩
def ndRow : List Nd → List Value
 | [] => []
 | t :: l => t.vals ++ ndRow l
theorem ndRow_append : ∀ (l m : List Nd), ndRow (l ++ m) = ndRow l ++ ndRow m
 | [], _ => rfl
 | t :: l, m => by show t.vals ++ ndRow (l ++ m) = _; rw [ndRow_append l m]; simp [ndRow]
theorem ndRow_len : ∀ l : List Nd, (ndRow l).length = l.length * 6
 | [] => rfl
 | t :: l => by show (t.vals ++ ndRow l).length = _; rw [List.length_append, ndRow_len l]; simp [Nd.vals]; omega
theorem ndRow_get : ∀ (l : List Nd) (i j : Nat) (h : i < l.length), j < 6 → (ndRow l)[i * 6 + j]? = l[i].vals[j]?
 | t :: l, 0, j, _, hj => by
  show (t.vals ++ ndRow l)[0 * 6 + j]? = t.vals[j]?
  rw [List.getElem?_append_left (by show 0 * 6 + j < 6; omega), show 0 * 6 + j = j from by omega]
 | t :: l, i + 1, j, h, hj => by
  show (t.vals ++ ndRow l)[(i + 1) * 6 + j]? = (l[i]'(by simpa using h)).vals[j]?
  rw [List.getElem?_append_right (by show 6 ≤ (i + 1) * 6 + j; omega), show (i + 1) * 6 + j - t.vals.length = i * 6 + j from by show (i + 1) * 6 + j - 6 = _; omega]
  exact ndRow_get l i j (by simpa using h) hj
mutual
/-- The node is this tree's; its rows lie in blocks of the kind B. -/
def TreeN (w : World) (B : Nat → Prop) : RT → Nd → Prop
 | .mk op st ks, nd => nd.op = (op : Int) ∧ nd.set = st ∧ ∃ nds, w.ownsRow 0 100 6 nd.kids ks.length (ndRow nds) ∧ (∀ g, nd.kids.ownBlock = some g → B g) ∧ TreesN w B ks nds
def TreesN (w : World) (B : Nat → Prop) : List RT → List Nd → Prop
 | [], nds => nds = []
 | t :: ts, nds => ∃ nd rest, nds = nd :: rest ∧ TreeN w B t nd ∧ TreesN w B ts rest
end
mutual
theorem TreeN.kept {w w' : World} {B B' : Nat → Prop} (hk : ∀ g, B g → g < w.heap.size → w'.heap[g]? = w.heap[g]?) (hB : ∀ g, B g → g < w.heap.size → B' g) : ∀ (t : RT) (nd : Nd), TreeN w B t nd → TreeN w' B' t nd
 | .mk op st ks, nd, h => by
  unfold TreeN at h ⊢
  obtain ⟨h1, h2, nds, h3, h4, h5⟩ := h
  exact ⟨h1, h2, nds, rg_own_kept h3 (fun g hg => hk g (h4 g hg) (rg_own_base h3 g hg).2), fun g hg => hB g (h4 g hg) (rg_own_base h3 g hg).2, TreesN.kept hk hB ks nds h5⟩
theorem TreesN.kept {w w' : World} {B B' : Nat → Prop} (hk : ∀ g, B g → g < w.heap.size → w'.heap[g]? = w.heap[g]?) (hB : ∀ g, B g → g < w.heap.size → B' g) : ∀ (ts : List RT) (nds : List Nd), TreesN w B ts nds → TreesN w' B' ts nds
 | [], nds, h => by unfold TreesN at h ⊢; exact h
 | t :: ts, nds, h => by
  unfold TreesN at h ⊢
  obtain ⟨nd, rest, h1, h2, h3⟩ := h
  exact ⟨nd, rest, h1, TreeN.kept hk hB t nd h2, TreesN.kept hk hB ts rest h3⟩
end
theorem TreesN.len {w : World} {B : Nat → Prop} : ∀ {ts : List RT} {nds : List Nd}, TreesN w B ts nds → nds.length = ts.length
 | [], nds, h => by unfold TreesN at h; rw [h]; rfl
 | t :: ts, nds, h => by
  unfold TreesN at h
  obtain ⟨nd, rest, h1, _, h3⟩ := h
  rw [h1, List.length_cons, h3.len, List.length_cons]
theorem TreesN.snoc {w : World} {B : Nat → Prop} {t : RT} {nd : Nd} (h : TreeN w B t nd) : ∀ {ts : List RT} {nds : List Nd}, TreesN w B ts nds → TreesN w B (ts ++ [t]) (nds ++ [nd])
 | [], nds, h2 => by
  unfold TreesN at h2; subst h2
  show TreesN w B [t] [nd]
  unfold TreesN
  exact ⟨nd, [], rfl, h, by unfold TreesN; rfl⟩
 | u :: ts, nds, h2 => by
  unfold TreesN at h2
  obtain ⟨x, rest, h3, h4, h5⟩ := h2
  subst h3
  show TreesN w B (u :: (ts ++ [t])) (x :: (rest ++ [nd]))
  unfold TreesN
  exact ⟨x, rest ++ [nd], rfl, h4, h5.snoc h⟩
theorem TreesN.unsnoc {w : World} {B : Nat → Prop} {t : RT} : ∀ {ts : List RT} {nds : List Nd}, TreesN w B (ts ++ [t]) nds → ∃ nd rest, nds = rest ++ [nd] ∧ TreeN w B t nd ∧ TreesN w B ts rest
 | [], nds, h2 => by
  change TreesN w B [t] nds at h2
  unfold TreesN at h2
  obtain ⟨nd, rest, h3, h4, h5⟩ := h2
  unfold TreesN at h5
  subst h5
  exact ⟨nd, [], h3, h4, by unfold TreesN; rfl⟩
 | u :: ts, nds, h2 => by
  change TreesN w B (u :: (ts ++ [t])) nds at h2
  unfold TreesN at h2
  obtain ⟨x, rest, h3, h4, h5⟩ := h2
  obtain ⟨nd, r2, h6, h7, h8⟩ := h5.unsnoc
  exact ⟨nd, x :: r2, by rw [h3, h6]; rfl, h7, by unfold TreesN; exact ⟨x, r2, rfl, h4, h8⟩⟩
theorem TreeN.leaf (w : World) (B : Nat → Prop) (op : Nat) (st : W4) : TreeN w B (.mk op st []) ⟨op, st, none, 0, 0⟩ := by
 unfold TreeN
 exact ⟨rfl, rfl, [], World.ownsRow_nil w 0 _ 6, fun g hg => by simp [Nd.kids, Value.ownBlock] at hg, by unfold TreesN; rfl⟩
/-- What a function that reads a tree hands back. -/
def VN (n0 : Nat) (w : World) (v : Value) (t : RT) : Prop := ∃ nd : Nd, v = nd.val ∧ TreeN w (fun g => n0 ≤ g) t nd
def GN (v : Value) : Prop := ∃ nd : Nd, v = nd.val
/-- A node lies in block g. -/
def BlkN (w : World) (g : Nat) (n : Nd) : Prop := w.heap[g]? = some (.cells #[.int .i64 n.op, .int .u64 n.set.a, .int .u64 n.set.b, .int .u64 n.set.c, .int .u64 n.set.d, .slice n.kp n.kn n.kc] 100 (0, 0))
structure BlkNC (w : World) (g : Nat) (n : Nd) : Prop where
 c0 : w.cell? ⟨g, 0, none⟩ = some (.int .i64 n.op)
 c1 : w.cell? ⟨g, 1, none⟩ = some (.int .u64 n.set.a)
 c2 : w.cell? ⟨g, 2, none⟩ = some (.int .u64 n.set.b)
 c3 : w.cell? ⟨g, 3, none⟩ = some (.int .u64 n.set.c)
 c4 : w.cell? ⟨g, 4, none⟩ = some (.int .u64 n.set.d)
 c5 : w.cell? ⟨g, 5, none⟩ = some (.slice n.kp n.kn n.kc)
 f0 : w.frozen? ⟨g, 0, none⟩ = false
 f1 : w.frozen? ⟨g, 1, none⟩ = false
 f2 : w.frozen? ⟨g, 2, none⟩ = false
 f3 : w.frozen? ⟨g, 3, none⟩ = false
 f4 : w.frozen? ⟨g, 4, none⟩ = false
 f5 : w.frozen? ⟨g, 5, none⟩ = false
section
variable {w w' : World} {g b : Nat} {a : Nd}
theorem BlkN.cells (h : BlkN w g a) : BlkNC w g a := ⟨rg_cell h, rg_cell h, rg_cell h, rg_cell h, rg_cell h, rg_cell h, rg_frozen h, rg_frozen h, rg_frozen h, rg_frozen h, rg_frozen h, rg_frozen h⟩
theorem BlkN.lt (h : BlkN w g a) : g < w.heap.size := (Array.getElem?_eq_some_iff.1 h).1
theorem BlkN.drewN (h : BlkN w g a) (n : Nat) : BlkN (w.drewN n) g a := h
theorem BlkN.alloc (h : BlkN w g a) (o : Obj) : BlkN (w.alloc o) g a := (Below.heap_alloc w o g h.lt).trans h
theorem BlkN.setNew (h : BlkN w g a) {p : Addr} (hp : p.block ≠ g) (v : Value) : BlkN (w.setCell p v) g a := (Below.heap_setCell w p v g (Ne.symm hp)).trans h
theorem BlkN.below (h : BlkN w g a) (hb : Below w.heap.size w w') : BlkN w' g a := (hb.block g h.lt).trans h
theorem BlkN.onl (h : BlkN w g a) (hb : Onl b w w') (hg : g ≠ b) : BlkN w' g a := (hb.block g h.lt hg).trans h
theorem BlkN.new (w : World) : BlkN (w.alloc (.cells #[.int .i64 0, .int .u64 0, .int .u64 0, .int .u64 0, .int .u64 0, .slice none 0 0] 100)) w.heap.size Nd.zero :=
 heap_alloc_new w _
end
/-- Six stores of a node into a block. -/
def put6 (w : World) (g : Nat) (n : Nd) : World := (((((w.setCell ⟨g, 0, none⟩ (.int .i64 n.op)).setCell ⟨g, 1, none⟩ (.int .u64 n.set.a)).setCell ⟨g, 2, none⟩ (.int .u64 n.set.b)).setCell ⟨g, 3, none⟩ (.int .u64 n.set.c)).setCell ⟨g, 4, none⟩ (.int .u64 n.set.d)).setCell ⟨g, 5, none⟩ (.slice n.kp n.kn n.kc)
section
variable {u w : World} {g b : Nat}
theorem put6_block {k : Nat} (hk : k ≠ g) (n : Nd) : (put6 w g n).heap[k]? = w.heap[k]? := by
 unfold put6
 rw [Below.heap_setCell _ _ _ k hk, Below.heap_setCell _ _ _ k hk, Below.heap_setCell _ _ _ k hk, Below.heap_setCell _ _ _ k hk, Below.heap_setCell _ _ _ k hk, Below.heap_setCell _ _ _ k hk]
theorem Onl.put6 (h : Onl b u w) (hg : u.heap.size ≤ g) (n : Nd) : Onl b u (put6 w g n) :=
 (((((h.setNew hg _).setNew hg _).setNew hg _).setNew hg _).setNew hg _).setNew hg _
theorem Rg.put6 {s : ByteArray} {p op bad er : Nat} (h : Rg w b s p op bad er) (hg : g ≠ b) (n : Nd) : Rg (put6 w g n) b s p op bad er := (put6_block (Ne.symm hg) n).trans h
theorem TreeN.put6 {B : Nat → Prop} {t : RT} {nd : Nd} (h : TreeN w B t nd) (hg : ∀ k, B k → k < w.heap.size → k ≠ g) (n : Nd) : TreeN (put6 w g n) B t nd :=
 h.kept (fun k hk hl => put6_block (hg k hk hl) n) (fun _ h _ => h)
end
end Go.Proofs.YtmbfdkiejneheaaGreatDoor

namespace Go.Proofs.YtmbfdkiejneheaaGreatDoor
open Go.RowKit

def bs (l : List UInt8) : ByteArray := ⟨l.toArray⟩
theorem bs_inj {a b : List UInt8} (h : bs a = bs b) : a = b := by
 have := congrArg (fun x : ByteArray => x.data.toList) h
 simpa [bs] using this
structure An where
 op : ByteArray
 tx : ByteArray
 pl : Int
 kp : Option Addr
 kn : Nat
 kc : Nat
abbrev zN : Obj := .cells #[.string ⟨#[]⟩, .string ⟨#[]⟩, .int .i64 0, .slice none 0 0] 25
abbrev nB (n : An) : Obj := .cells #[.string n.op, .string n.tx, .int .i64 n.pl, .slice n.kp n.kn n.kc] 25
abbrev nB2 (n m : An) : Obj := .cells #[.string n.op, .string n.tx, .int .i64 n.pl, .slice n.kp n.kn n.kc, .string m.op, .string m.tx, .int .i64 m.pl, .slice m.kp m.kn m.kc] 25
def An.kids (n : An) : Value := .slice n.kp n.kn n.kc
def An.vals (n : An) : List Value := [.string n.op, .string n.tx, .int .i64 n.pl, .slice n.kp n.kn n.kc]
def An.val (n : An) : Value := .agg #[.string n.op, .string n.tx, .int .i64 n.pl, .slice n.kp n.kn n.kc]
def An.zero : An := ⟨⟨#[]⟩, ⟨#[]⟩, 0, none, 0, 0⟩
def anRow : List An → List Value
 | [] => []
 | t :: l => t.vals ++ anRow l
theorem anRow_append : ∀ (l m : List An), anRow (l ++ m) = anRow l ++ anRow m
 | [], _ => rfl
 | t :: l, m => by show t.vals ++ anRow (l ++ m) = _; rw [anRow_append l m]; simp [anRow]
theorem anRow_one (n : An) : anRow [n] = n.vals := by simp [anRow]
theorem anRow_len : ∀ l : List An, (anRow l).length = l.length * 4
 | [] => rfl
 | t :: l => by show (t.vals ++ anRow l).length = _; rw [List.length_append, anRow_len l]; simp [An.vals]; omega
theorem anRow_get : ∀ (l : List An) (i j : Nat) (h : i < l.length), j < 4 → (anRow l)[i * 4 + j]? = l[i].vals[j]?
 | t :: l, 0, j, _, hj => by
  show (t.vals ++ anRow l)[0 * 4 + j]? = t.vals[j]?
  rw [List.getElem?_append_left (by show 0 * 4 + j < 4; omega), show 0 * 4 + j = j from by omega]
 | t :: l, i + 1, j, h, hj => by
  show (t.vals ++ anRow l)[(i + 1) * 4 + j]? = (l[i]'(by simpa using h)).vals[j]?
  rw [List.getElem?_append_right (by show 4 ≤ (i + 1) * 4 + j; omega), show (i + 1) * 4 + j - t.vals.length = i * 4 + j from by show (i + 1) * 4 + j - 4 = _; omega]
  exact anRow_get l i j (by simpa using h) hj
mutual
/-- The node is this tree's; its rows lie in blocks of the kind B. -/
def TreeP (w : World) (B : Nat → Prop) : PT → An → Prop
 | .mk op tx pl ks, n => n.op = bs op ∧ n.tx = bs tx ∧ n.pl = (pl : Int) ∧ ∃ ns, w.ownsRow 0 25 4 n.kids ks.length (anRow ns) ∧ (∀ g, n.kids.ownBlock = some g → B g) ∧ TreesP w B ks ns
def TreesP (w : World) (B : Nat → Prop) : List PT → List An → Prop
 | [], ns => ns = []
 | t :: ts, ns => ∃ n rest, ns = n :: rest ∧ TreeP w B t n ∧ TreesP w B ts rest
end
mutual
theorem TreeP.kept {w w' : World} {B B' : Nat → Prop} (hk : ∀ g, B g → g < w.heap.size → w'.heap[g]? = w.heap[g]?) (hB : ∀ g, B g → g < w.heap.size → B' g) : ∀ (t : PT) (n : An), TreeP w B t n → TreeP w' B' t n
 | .mk op tx pl ks, n, h => by
  unfold TreeP at h ⊢
  obtain ⟨h1, h2, h0, ns, h3, h4, h5⟩ := h
  exact ⟨h1, h2, h0, ns, rg_own_kept h3 (fun g hg => hk g (h4 g hg) (rg_own_base h3 g hg).2), fun g hg => hB g (h4 g hg) (rg_own_base h3 g hg).2, TreesP.kept hk hB ks ns h5⟩
theorem TreesP.kept {w w' : World} {B B' : Nat → Prop} (hk : ∀ g, B g → g < w.heap.size → w'.heap[g]? = w.heap[g]?) (hB : ∀ g, B g → g < w.heap.size → B' g) : ∀ (ts : List PT) (ns : List An), TreesP w B ts ns → TreesP w' B' ts ns
 | [], ns, h => by unfold TreesP at h ⊢; exact h
 | t :: ts, ns, h => by
  unfold TreesP at h ⊢
  obtain ⟨n, rest, h1, h2, h3⟩ := h
  exact ⟨n, rest, h1, TreeP.kept hk hB t n h2, TreesP.kept hk hB ts rest h3⟩
end
theorem TreesP.len {w : World} {B : Nat → Prop} : ∀ {ts : List PT} {ns : List An}, TreesP w B ts ns → ns.length = ts.length
 | [], ns, h => by unfold TreesP at h; rw [h]; rfl
 | t :: ts, ns, h => by
  unfold TreesP at h
  obtain ⟨n, rest, h1, _, h3⟩ := h
  rw [h1, List.length_cons, h3.len, List.length_cons]
theorem TreesP.nil (w : World) (B : Nat → Prop) : TreesP w B [] [] := by unfold TreesP; rfl
theorem TreesP.cons {w : World} {B : Nat → Prop} {t : PT} {n : An} {ts : List PT} {ns : List An} (h : TreeP w B t n) (k : TreesP w B ts ns) : TreesP w B (t :: ts) (n :: ns) := by
 unfold TreesP; exact ⟨n, ns, rfl, h, k⟩
theorem TreesP.one {w : World} {B : Nat → Prop} {t : PT} {n : An} (h : TreeP w B t n) : TreesP w B [t] [n] := .cons h (.nil w B)
theorem TreesP.snoc {w : World} {B : Nat → Prop} {t : PT} {n : An} (h : TreeP w B t n) : ∀ {ts : List PT} {ns : List An}, TreesP w B ts ns → TreesP w B (ts ++ [t]) (ns ++ [n])
 | [], ns, h2 => by
  unfold TreesP at h2; subst h2
  exact .one h
 | u :: ts, ns, h2 => by
  unfold TreesP at h2
  obtain ⟨x, rest, h3, h4, h5⟩ := h2
  subst h3
  exact .cons h4 (h5.snoc h)
theorem TreeP.leaf (w : World) (B : Nat → Prop) (op tx : List UInt8) (pl : Nat) : TreeP w B (.mk op tx pl []) ⟨bs op, bs tx, pl, none, 0, 0⟩ := by
 unfold TreeP
 exact ⟨rfl, rfl, rfl, [], World.ownsRow_nil w 0 _ 4, fun g hg => by simp [An.kids, Value.ownBlock] at hg, .nil w B⟩
theorem TreeP.mk {w : World} {B : Nat → Prop} {op tx : List UInt8} {pl : Nat} {ks : List PT} {ns : List An} {n : An} (h0 : n.op = bs op) (h1 : n.tx = bs tx) (h2 : n.pl = (pl : Int)) (h3 : w.ownsRow 0 25 4 n.kids ks.length (anRow ns)) (h4 : ∀ g, n.kids.ownBlock = some g → B g) (h5 : TreesP w B ks ns) : TreeP w B (.mk op tx pl ks) n := by
 unfold TreeP; exact ⟨h0, h1, h2, ns, h3, h4, h5⟩
theorem TreeP.opx {w : World} {B : Nat → Prop} {t : PT} {n : An} (h : TreeP w B t n) : n.op = bs t.op := by
 cases t; unfold TreeP at h; exact h.1
/-- A block that holds a node. -/
def BlkA (w : World) (g : Nat) (n : An) : Prop := w.heap[g]? = some (.cells #[.string n.op, .string n.tx, .int .i64 n.pl, .slice n.kp n.kn n.kc] 25 (0, 0))
structure BlkAC (w : World) (g : Nat) (n : An) : Prop where
 c0 : w.cell? ⟨g, 0, none⟩ = some (.string n.op)
 c1 : w.cell? ⟨g, 1, none⟩ = some (.string n.tx)
 c2 : w.cell? ⟨g, 2, none⟩ = some (.int .i64 n.pl)
 c3 : w.cell? ⟨g, 3, none⟩ = some (.slice n.kp n.kn n.kc)
 f0 : w.frozen? ⟨g, 0, none⟩ = false
 f1 : w.frozen? ⟨g, 1, none⟩ = false
 f2 : w.frozen? ⟨g, 2, none⟩ = false
 f3 : w.frozen? ⟨g, 3, none⟩ = false
section
variable {w w' : World} {g b : Nat} {a : An}
theorem BlkA.cells (h : BlkA w g a) : BlkAC w g a := ⟨rg_cell h, rg_cell h, rg_cell h, rg_cell h, rg_frozen h, rg_frozen h, rg_frozen h, rg_frozen h⟩
theorem BlkA.lt (h : BlkA w g a) : g < w.heap.size := (Array.getElem?_eq_some_iff.1 h).1
theorem BlkA.drew (h : BlkA w g a) : BlkA w.drew g a := h
theorem BlkA.alloc (h : BlkA w g a) (o : Obj) : BlkA (w.alloc o) g a := (Below.heap_alloc w o g h.lt).trans h
theorem BlkA.setNew (h : BlkA w g a) {p : Addr} (hp : p.block ≠ g) (v : Value) : BlkA (w.setCell p v) g a := (Below.heap_setCell w p v g (Ne.symm hp)).trans h
theorem BlkA.below (h : BlkA w g a) (hb : Below w.heap.size w w') : BlkA w' g a := (hb.block g h.lt).trans h
theorem BlkA.onl (h : BlkA w g a) (hb : Onl b w w') (hg : g ≠ b) : BlkA w' g a := (hb.block g h.lt hg).trans h
theorem BlkA.new (w : World) (a : An) : BlkA (w.alloc (.cells #[.string a.op, .string a.tx, .int .i64 a.pl, .slice a.kp a.kn a.kc] 25)) w.heap.size a := heap_alloc_new w _
end
def putA (w : World) (g : Nat) (n : An) : World := (((w.setCell ⟨g, 0, none⟩ (.string n.op)).setCell ⟨g, 1, none⟩ (.string n.tx)).setCell ⟨g, 2, none⟩ (.int .i64 n.pl)).setCell ⟨g, 3, none⟩ (.slice n.kp n.kn n.kc)
theorem BlkA.putA {w : World} {g : Nat} {a : An} (h : BlkA w g a) (n : An) : BlkA (putA w g n) g n := by
 have h1 := rg_setCell h (i := 0) (.string n.op)
 have h2 := rg_setCell h1 (i := 1) (.string n.tx)
 have h3 := rg_setCell h2 (i := 2) (.int .i64 n.pl)
 have h4 := rg_setCell h3 (i := 3) (.slice n.kp n.kn n.kc)
 exact h4
section
variable {u w : World} {g b : Nat}
theorem putA_block {k : Nat} (hk : k ≠ g) (n : An) : (putA w g n).heap[k]? = w.heap[k]? := by
 unfold putA
 rw [Below.heap_setCell _ _ _ k hk, Below.heap_setCell _ _ _ k hk, Below.heap_setCell _ _ _ k hk, Below.heap_setCell _ _ _ k hk]
theorem putA_size (n : An) : (putA w g n).heap.size = w.heap.size := by unfold putA; simp only [World.size_setCell]
theorem Onl.putA (h : Onl b u w) (hg : u.heap.size ≤ g) (n : An) : Onl b u (putA w g n) :=
 (((h.setNew hg _).setNew hg _).setNew hg _).setNew hg _
theorem Pst.putA {K : Ps} {l : List Tok} {dp : Nat} {pr : Bool} {er : ErO} (h : Pst w K l dp pr er) (h1 : g ≠ K.b) (h2 : g ≠ K.g) (n : An) : Pst (putA w g n) K l dp pr er :=
 h.kept fun k _ he => putA_block (by rcases he with rfl | rfl <;> exact Ne.symm ‹_›) n
theorem TreeP.putA {B : Nat → Prop} {t : PT} {a : An} (h : TreeP w B t a) (hg : ∀ k, B k → k < w.heap.size → k ≠ g) (n : An) : TreeP (putA w g n) B t a :=
 h.kept (fun k hk hl => putA_block (hg k hk hl) n) (fun _ h _ => h)
end
theorem TreeP.kept' {w w' : World} {B B' : Nat → Prop} {t : PT} {n : An} (h : TreeP w B t n) (hk : ∀ g, B g → g < w.heap.size → w'.heap[g]? = w.heap[g]?) (hB : ∀ g, B g → g < w.heap.size → B' g) : TreeP w' B' t n := TreeP.kept hk hB t n h
theorem TreeP.onl {w w' : World} {b B0 : Nat} {t : PT} {n : An} (h : TreeP w (fun k => B0 ≤ k) t n) (o : Onl b w w') (hb : b < B0) : TreeP w' (fun k => B0 ≤ k) t n := h.kept' (fun k hk hl => o.block k hl (by omega)) (fun _ h _ => h)
theorem TreeP.below {w w' : World} {B : Nat → Prop} {t : PT} {n : An} (h : TreeP w B t n) (o : Below w.heap.size w w') : TreeP w' B t n := h.kept' (fun k _ hl => o.block k hl) (fun _ h _ => h)
theorem TreeP.drew {w : World} {B : Nat → Prop} {t : PT} {n : An} (h : TreeP w B t n) : TreeP w.drew B t n := h.kept' (fun _ _ _ => rfl) (fun _ h _ => h)
theorem TreeP.low {w : World} {B0 B1 : Nat} {t : PT} {n : An} (h : TreeP w (fun k => B0 ≤ k) t n) (hb : B1 ≤ B0) : TreeP w (fun k => B1 ≤ k) t n := h.kept' (fun _ _ _ => rfl) (fun _ hk _ => Nat.le_trans hb hk)
theorem TreesP.below {w w' : World} {B : Nat → Prop} {ts : List PT} {ns : List An} (h : TreesP w B ts ns) (o : Below w.heap.size w w') : TreesP w' B ts ns := TreesP.kept (fun k _ hl => o.block k hl) (fun _ h _ => h) ts ns h
theorem Mv.putA {K : Ps} {w w' : World} {l : List Tok} {dp : Nat} {pr : Bool} {er : ErO} {g : Nat} (h : Mv K w l dp pr er w') (hg : w.heap.size ≤ g) (hK : K.b < w.heap.size ∧ K.g < w.heap.size) (n : An) : Mv K w l dp pr er (putA w' g n) := ⟨h.1.putA (by omega) (by omega) n, h.2.putA hg n⟩
/-- What a call leaves that reads a node: the node is the document's, as far as there is one. -/
def NdPost (K : Ps) (w : World) (B0 : Nat) (l : List Tok) (X : TR PT) (dp : Nat) (pr : Bool) (er : ErO) (e : Ending) (w' : World) : Prop :=
 ∃ t n l2 er2, e = .returned (An.val n) ∧ Res X l er t l2 er2 ∧ Mv K w l2 dp pr er2 w' ∧ TreeP w' (fun k => B0 ≤ k) t n
/-- A row of nodes lies in a block that is new since n0, its trees in others. -/
def FreeA (n0 : Nat) (v : Value) (g : Nat) : Prop := n0 ≤ g ∧ v.ownBlock ≠ some g
/-- A row of nodes. -/
structure RwA (w : World) (n0 : Nat) (ts : List PT) (ns : List An) (v : Value) : Prop where
 own : w.ownsRow n0 25 4 v ns.length (anRow ns)
 tr : TreesP w (FreeA n0 v) ts ns
def RwPost (K : Ps) (w : World) (l : List Tok) (X : TR (List PT)) (dp : Nat) (pr : Bool) (er : ErO) (e : Ending) (w' : World) : Prop :=
 ∃ ts ns p c l2 er2, e = .returned (.slice p ns.length c) ∧ Res X l er ts l2 er2 ∧ Mv K w l2 dp pr er2 w' ∧ RwA w' w.heap.size ts ns (.slice p ns.length c) ∧ ns.length ≤ l.length
theorem RwA.onl {w w' : World} {b n0 : Nat} {ts : List PT} {ns : List An} {v : Value} (h : RwA w n0 ts ns v) (o : Onl b w w') (hb : b < n0) : RwA w' n0 ts ns v :=
 ⟨rg_own_kept h.own (fun g hg => o.block g (rg_own_base h.own g hg).2 (by have := (rg_own_base h.own g hg).1; omega)), TreesP.kept (fun k hk hl => o.block k hl (by have := hk.1; omega)) (fun _ h _ => h) ts ns h.tr⟩
theorem RwA.below {w w' : World} {n0 : Nat} {ts : List PT} {ns : List An} {v : Value} (h : RwA w n0 ts ns v) (o : Below w.heap.size w w') : RwA w' n0 ts ns v :=
 ⟨rg_own_kept h.own (fun g hg => o.block g (rg_own_base h.own g hg).2), h.tr.below o⟩
theorem RwA.drew {w : World} {n0 : Nat} {ts : List PT} {ns : List An} {v : Value} (h : RwA w n0 ts ns v) : RwA w.drew n0 ts ns v := ⟨h.own, TreesP.kept (w := w) (w' := w.drew) (fun _ _ _ => rfl) (fun _ h _ => h) ts ns h.tr⟩
theorem RwA.low {w : World} {n0 n1 : Nat} {ts : List PT} {ns : List An} {v : Value} (h : RwA w n0 ts ns v) (hb : n1 ≤ n0) : RwA w n1 ts ns v :=
 ⟨rg_own_less h.own hb, TreesP.kept (fun _ _ _ => rfl) (fun _ hk _ => ⟨Nat.le_trans hb hk.1, hk.2⟩) ts ns h.tr⟩
/-- A node whose kids are a row. -/
theorem RwA.node {w : World} {n0 : Nat} {ts : List PT} {ns : List An} {p : Option Addr} {c : Nat} (h : RwA w n0 ts ns (.slice p ns.length c)) (op tx : List UInt8) (pl : Nat) : TreeP w (fun k => n0 ≤ k) (.mk op tx pl ts) ⟨bs op, bs tx, (pl : Int), p, ns.length, c⟩ := by
 refine TreeP.mk rfl rfl rfl ?_ ?_ (TreesP.kept (fun _ _ _ => rfl) (fun _ hk _ => hk.1) ts ns h.tr)
 ·
  have := h.tr.len
  rw [← this]
  exact rg_own_less h.own (Nat.zero_le _)
 ·
  intro g hg
  exact (rg_own_base h.own g hg).1
end Go.Proofs.YtmbfdkiejneheaaGreatDoor

namespace Go.Proofs.YtmbfdkiejneheaaGreatDoor
open Go.RowKit

set_option maxHeartbeats 4000000 in
set_option maxRecDepth 100000 in
theorem pnode_any (o : ByteArray) (p : Option Addr) (n c : Nat) (w : World) : Calls Tryz.prog 24 #[.string o, .slice p n c] w fun e w' => e = .returned (An.val ⟨o, ⟨#[]⟩, 0, p, n, c⟩) ∧ Below w.heap.size w w' := by
 have H := kH ((Below.refl w.heap.size w).alloc (Nat.le_refl _) (.cells #[.string o, .string ⟨#[]⟩, .int .i64 0, .slice p n c] 25))
 go_enter Tryz.func24, Tryz.ntmps24
 go_wp2_with fail
 exact bodyPost_ret (v := An.val ⟨o, ⟨#[]⟩, 0, p, n, c⟩) (by simp [results, Tryz.results24, go_sem, An.val]) rfl ⟨rfl, H.out⟩
set_option maxHeartbeats 4000000 in
set_option maxRecDepth 100000 in
theorem pnamed_any (o : ByteArray) (t : Tok) (p : Option Addr) (n c : Nat) (w : World) : Calls Tryz.prog 58 #[.string o, tokV t, .slice p n c] w fun e w' => e = .returned (An.val ⟨o, bs t.t, t.a, p, n, c⟩) ∧ Below w.heap.size w w' := by
 have H := kH (((Below.refl w.heap.size w).alloc (Nat.le_refl _) (.cells #[.int .i64 t.k, .string ⟨t.t.toArray⟩, .int .i64 t.a] 60)).alloc (by simp) (.cells #[.string o, .string ⟨t.t.toArray⟩, .int .i64 t.a, .slice p n c] 25))
 unfold tokV
 go_enter Tryz.func58, Tryz.ntmps58
 go_wp2_with fail
 exact bodyPost_ret (v := An.val ⟨o, bs t.t, t.a, p, n, c⟩) (by simp [results, Tryz.results58, go_sem, An.val, bs]) rfl ⟨rfl, H.out⟩
set_option maxHeartbeats 4000000 in
set_option maxRecDepth 100000 in
theorem pispl_any (t : PT) (n : An) (hn : n.op = bs t.op) (w : World) : Calls Tryz.prog 77 #[An.val n] w fun e w' => e = .returned (.bool (isPl t)) ∧ Below w.heap.size w w' := by
 obtain ⟨o, tx, pl, kp, kn, kc⟩ := n
 simp only at hn
 subst hn
 have H := kH ((Below.refl w.heap.size w).alloc (Nat.le_refl _) (.cells #[.string ⟨t.op.toArray⟩, .string tx, .int .i64 pl, .slice kp kn kc] 25))
 unfold An.val bs isPl oVar oIndex oField
 generalize t.op = o at *
 go_enter Tryz.func77, Tryz.ntmps77
 go_wp2_with fail
 all_goals
  go_ret
  refine ⟨?_, ?_⟩
  ·
   first
   | (simp_all; done)
   | (simp_all; rw [Bool.eq_iff_iff]; simp_all)
  ·
   first
   | exact H.out
   | (subst_vars; exact H.out)
   | (rename_i h2; rw [← h2]; exact H.out)
set_option maxHeartbeats 4000000 in
set_option maxRecDepth 100000 in
theorem pbin_any (s : List UInt8) (w : World) : Calls Tryz.prog 99 #[.string ⟨s.toArray⟩] w fun e w' => e = .returned (.string ⟨(binO s).toArray⟩) ∧ w' = w := by
 go_enter Tryz.func99, Tryz.ntmps99
 go_wp2_with fail
 all_goals
  go_ret
  refine ⟨?_, rfl⟩
  simp_all [binO]
end Go.Proofs.YtmbfdkiejneheaaGreatDoor
