/-
  A LAW, of no program: a region that draws its order, whose stores wait for what it loads: a condition on the world that is asked for only as long as no store has come up. ('a, b = f(a), f(b)': loads, calls, then the stores, in whatever order.)
-/
import Derived.Test.YtjjejcgpeefclaaDoorRgSp
import Derived.Maps.AppendAt
import Derived.OwnWalk
import Derived.Deep.RegionHeld
namespace Go.Proofs.YtjjejcgpeefclaaDoor
open Go.RowKit

theorem rg_own_base {w : World} {B : Nat} {e : TypeId} {z : Nat} {v : Value} {n : Nat} {xs : List Value} (h : w.ownsRow B e z v n xs) : ∀ g, v.ownBlock = some g → B ≤ g ∧ g < w.heap.size := by
  intro g hg
  rcases h.2 with ⟨rfl, _⟩ | ⟨g', cap, cur, rfl, hB, hgg, _⟩
  · simp [Value.ownBlock] at hg
  · simp [Value.ownBlock] at hg
    subst hg
    exact ⟨hB, (Array.getElem?_eq_some_iff.1 hgg).1⟩
theorem rg_own_kept {w w' : World} {B : Nat} {e : TypeId} {z : Nat} {v : Value} {n : Nat} {xs : List Value} (h : w.ownsRow B e z v n xs) (hk : ∀ g, v.ownBlock = some g → w'.heap[g]? = w.heap[g]?) : w'.ownsRow B e z v n xs := by
  refine ⟨h.1, ?_⟩
  rcases h.2 with h2 | ⟨g, cap, cur, rfl, hB, hgg, h3⟩
  · exact .inl h2
  · exact .inr ⟨g, cap, cur, rfl, hB, (hk g rfl).trans hgg, h3⟩
theorem rg_own_less {w : World} {B C : Nat} {e : TypeId} {z : Nat} {v : Value} {n : Nat} {xs : List Value} (h : w.ownsRow B e z v n xs) (hC : C ≤ B) : w.ownsRow C e z v n xs := by
  refine ⟨h.1, ?_⟩
  rcases h.2 with h2 | ⟨g, cap, cur, rfl, hB, h3⟩
  · exact .inl h2
  · exact .inr ⟨g, cap, cur, rfl, Nat.le_trans hC hB, h3⟩
theorem rg_own_form {w : World} {B : Nat} {e : TypeId} {z : Nat} {v : Value} {n : Nat} {xs : List Value} (h : w.ownsRow B e z v n xs) : ∃ p c, v = .slice p n c ∧ n ≤ c := by
  rcases h.2 with ⟨rfl, rfl⟩ | ⟨g, cap, cur, rfl, hB, _, h3, _⟩
  · exact ⟨none, 0, rfl, Nat.le_refl _⟩
  · exact ⟨_, _, rfl, h3⟩
theorem rg_own_succ {w : World} {B : Nat} {e : TypeId} {z : Nat} {v : Value} {n : Nat} {xs : List Value} (h : w.ownsRow B e z v (n + 1) xs) : ∃ g c, v = .slice (some ⟨g, 0, none⟩) (n + 1) c ∧ n + 1 ≤ c := by
  rcases h.2 with ⟨_, h0⟩ | ⟨g, cap, cur, rfl, hB, _, h3, _⟩
  · omega
  · exact ⟨_, _, rfl, h3⟩

/-- A node, as a value. -/
structure Nd where
  op : Int
  set : W4
  kp : Option Addr
  kn : Nat
  kc : Nat
def Nd.kids (n : Nd) : Value := .slice n.kp n.kn n.kc
def Nd.val (n : Nd) : Value := .agg #[.int .i64 n.op, .int .u64 n.set.a, .int .u64 n.set.b, .int .u64 n.set.c, .int .u64 n.set.d, .slice n.kp n.kn n.kc]
def Nd.vals (n : Nd) : List Value := [.int .i64 n.op, .int .u64 n.set.a, .int .u64 n.set.b, .int .u64 n.set.c, .int .u64 n.set.d, .slice n.kp n.kn n.kc]
def Nd.zero : Nd := ⟨0, W4.zero, none, 0, 0⟩
def ndRow : List Nd → List Value
  | [] => []
  | t :: l => t.vals ++ ndRow l
theorem ndRow_append : ∀ (l m : List Nd), ndRow (l ++ m) = ndRow l ++ ndRow m
  | [], _ => rfl
  | t :: l, m => by show t.vals ++ ndRow (l ++ m) = _; rw [ndRow_append l m]; simp [ndRow]
theorem ndRow_len : ∀ l : List Nd, (ndRow l).length = l.length * 6
  | [] => rfl
  | t :: l => by show (t.vals ++ ndRow l).length = _; rw [List.length_append, ndRow_len l]; simp [Nd.vals]; omega
theorem ndRow_get : ∀ (l : List Nd) (i j : Nat) (h : i < l.length), j < 6 → (ndRow l)[i * 6 + j]? = l[i].vals[j]?
  | t :: l, 0, j, _, hj => by
    show (t.vals ++ ndRow l)[0 * 6 + j]? = t.vals[j]?
    rw [List.getElem?_append_left (by show 0 * 6 + j < 6; omega), show 0 * 6 + j = j from by omega]
  | t :: l, i + 1, j, h, hj => by
    show (t.vals ++ ndRow l)[(i + 1) * 6 + j]? = (l[i]'(by simpa using h)).vals[j]?
    rw [List.getElem?_append_right (by show 6 ≤ (i + 1) * 6 + j; omega), show (i + 1) * 6 + j - t.vals.length = i * 6 + j from by show (i + 1) * 6 + j - 6 = _; omega]
    exact ndRow_get l i j (by simpa using h) hj
mutual
/-- The node is this tree's; its rows lie in blocks of the kind B. -/
def TreeN (w : World) (B : Nat → Prop) : RT → Nd → Prop
  | .mk op st ks, nd => nd.op = (op : Int) ∧ nd.set = st ∧ ∃ nds, w.ownsRow 0 50 6 nd.kids ks.length (ndRow nds) ∧ (∀ g, nd.kids.ownBlock = some g → B g) ∧ TreesN w B ks nds
def TreesN (w : World) (B : Nat → Prop) : List RT → List Nd → Prop
  | [], nds => nds = []
  | t :: ts, nds => ∃ nd rest, nds = nd :: rest ∧ TreeN w B t nd ∧ TreesN w B ts rest
end
mutual
theorem TreeN.kept {w w' : World} {B B' : Nat → Prop} (hk : ∀ g, B g → g < w.heap.size → w'.heap[g]? = w.heap[g]?) (hB : ∀ g, B g → g < w.heap.size → B' g) : ∀ (t : RT) (nd : Nd), TreeN w B t nd → TreeN w' B' t nd
  | .mk op st ks, nd, h => by
    unfold TreeN at h ⊢
    obtain ⟨h1, h2, nds, h3, h4, h5⟩ := h
    exact ⟨h1, h2, nds, rg_own_kept h3 (fun g hg => hk g (h4 g hg) (rg_own_base h3 g hg).2), fun g hg => hB g (h4 g hg) (rg_own_base h3 g hg).2, TreesN.kept hk hB ks nds h5⟩
theorem TreesN.kept {w w' : World} {B B' : Nat → Prop} (hk : ∀ g, B g → g < w.heap.size → w'.heap[g]? = w.heap[g]?) (hB : ∀ g, B g → g < w.heap.size → B' g) : ∀ (ts : List RT) (nds : List Nd), TreesN w B ts nds → TreesN w' B' ts nds
  | [], nds, h => by unfold TreesN at h ⊢; exact h
  | t :: ts, nds, h => by
    unfold TreesN at h ⊢
    obtain ⟨nd, rest, h1, h2, h3⟩ := h
    exact ⟨nd, rest, h1, TreeN.kept hk hB t nd h2, TreesN.kept hk hB ts rest h3⟩
end
theorem TreesN.len {w : World} {B : Nat → Prop} : ∀ {ts : List RT} {nds : List Nd}, TreesN w B ts nds → nds.length = ts.length
  | [], nds, h => by unfold TreesN at h; rw [h]; rfl
  | t :: ts, nds, h => by
    unfold TreesN at h
    obtain ⟨nd, rest, h1, _, h3⟩ := h
    rw [h1, List.length_cons, h3.len, List.length_cons]
theorem TreesN.snoc {w : World} {B : Nat → Prop} {t : RT} {nd : Nd} (h : TreeN w B t nd) : ∀ {ts : List RT} {nds : List Nd}, TreesN w B ts nds → TreesN w B (ts ++ [t]) (nds ++ [nd])
  | [], nds, h2 => by
    unfold TreesN at h2; subst h2
    show TreesN w B [t] [nd]
    unfold TreesN
    exact ⟨nd, [], rfl, h, by unfold TreesN; rfl⟩
  | u :: ts, nds, h2 => by
    unfold TreesN at h2
    obtain ⟨x, rest, h3, h4, h5⟩ := h2
    subst h3
    show TreesN w B (u :: (ts ++ [t])) (x :: (rest ++ [nd]))
    unfold TreesN
    exact ⟨x, rest ++ [nd], rfl, h4, h5.snoc h⟩
theorem TreesN.unsnoc {w : World} {B : Nat → Prop} {t : RT} : ∀ {ts : List RT} {nds : List Nd}, TreesN w B (ts ++ [t]) nds → ∃ nd rest, nds = rest ++ [nd] ∧ TreeN w B t nd ∧ TreesN w B ts rest
  | [], nds, h2 => by
    change TreesN w B [t] nds at h2
    unfold TreesN at h2
    obtain ⟨nd, rest, h3, h4, h5⟩ := h2
    unfold TreesN at h5
    subst h5
    exact ⟨nd, [], h3, h4, by unfold TreesN; rfl⟩
  | u :: ts, nds, h2 => by
    change TreesN w B (u :: (ts ++ [t])) nds at h2
    unfold TreesN at h2
    obtain ⟨x, rest, h3, h4, h5⟩ := h2
    obtain ⟨nd, r2, h6, h7, h8⟩ := h5.unsnoc
    exact ⟨nd, x :: r2, by rw [h3, h6]; rfl, h7, by unfold TreesN; exact ⟨x, r2, rfl, h4, h8⟩⟩
theorem TreeN.leaf (w : World) (B : Nat → Prop) (op : Nat) (st : W4) : TreeN w B (.mk op st []) ⟨op, st, none, 0, 0⟩ := by
  unfold TreeN
  exact ⟨rfl, rfl, [], World.ownsRow_nil w 0 _ 6, fun g hg => by simp [Nd.kids, Value.ownBlock] at hg, by unfold TreesN; rfl⟩
/-- What a function that reads a tree hands back. -/
def VN (n0 : Nat) (w : World) (v : Value) (t : RT) : Prop := ∃ nd : Nd, v = nd.val ∧ TreeN w (fun g => n0 ≤ g) t nd
def GN (v : Value) : Prop := ∃ nd : Nd, v = nd.val
/-- A node lies in block g. -/
def BlkN (w : World) (g : Nat) (n : Nd) : Prop := w.heap[g]? = some (.cells #[.int .i64 n.op, .int .u64 n.set.a, .int .u64 n.set.b, .int .u64 n.set.c, .int .u64 n.set.d, .slice n.kp n.kn n.kc] 50 (0, 0))
structure BlkNC (w : World) (g : Nat) (n : Nd) : Prop where
  c0 : w.cell? ⟨g, 0, none⟩ = some (.int .i64 n.op)
  c1 : w.cell? ⟨g, 1, none⟩ = some (.int .u64 n.set.a)
  c2 : w.cell? ⟨g, 2, none⟩ = some (.int .u64 n.set.b)
  c3 : w.cell? ⟨g, 3, none⟩ = some (.int .u64 n.set.c)
  c4 : w.cell? ⟨g, 4, none⟩ = some (.int .u64 n.set.d)
  c5 : w.cell? ⟨g, 5, none⟩ = some (.slice n.kp n.kn n.kc)
  f0 : w.frozen? ⟨g, 0, none⟩ = false
  f1 : w.frozen? ⟨g, 1, none⟩ = false
  f2 : w.frozen? ⟨g, 2, none⟩ = false
  f3 : w.frozen? ⟨g, 3, none⟩ = false
  f4 : w.frozen? ⟨g, 4, none⟩ = false
  f5 : w.frozen? ⟨g, 5, none⟩ = false
section
variable {w w' : World} {g b : Nat} {a : Nd}
theorem BlkN.cells (h : BlkN w g a) : BlkNC w g a := ⟨rg_cell h, rg_cell h, rg_cell h, rg_cell h, rg_cell h, rg_cell h, rg_frozen h, rg_frozen h, rg_frozen h, rg_frozen h, rg_frozen h, rg_frozen h⟩
theorem BlkN.lt (h : BlkN w g a) : g < w.heap.size := (Array.getElem?_eq_some_iff.1 h).1
theorem BlkN.drewN (h : BlkN w g a) (n : Nat) : BlkN (w.drewN n) g a := h
theorem BlkN.alloc (h : BlkN w g a) (o : Obj) : BlkN (w.alloc o) g a := (Below.heap_alloc w o g h.lt).trans h
theorem BlkN.setNew (h : BlkN w g a) {p : Addr} (hp : p.block ≠ g) (v : Value) : BlkN (w.setCell p v) g a := (Below.heap_setCell w p v g (Ne.symm hp)).trans h
theorem BlkN.below (h : BlkN w g a) (hb : Below w.heap.size w w') : BlkN w' g a := (hb.block g h.lt).trans h
theorem BlkN.onl (h : BlkN w g a) (hb : Onl b w w') (hg : g ≠ b) : BlkN w' g a := (hb.block g h.lt hg).trans h
theorem BlkN.new (w : World) : BlkN (w.alloc (.cells #[.int .i64 0, .int .u64 0, .int .u64 0, .int .u64 0, .int .u64 0, .slice none 0 0] 50)) w.heap.size Nd.zero :=
  heap_alloc_new w _
end
/-- Six stores of a node into a block. -/
def put6 (w : World) (g : Nat) (n : Nd) : World := (((((w.setCell ⟨g, 0, none⟩ (.int .i64 n.op)).setCell ⟨g, 1, none⟩ (.int .u64 n.set.a)).setCell ⟨g, 2, none⟩ (.int .u64 n.set.b)).setCell ⟨g, 3, none⟩ (.int .u64 n.set.c)).setCell ⟨g, 4, none⟩ (.int .u64 n.set.d)).setCell ⟨g, 5, none⟩ (.slice n.kp n.kn n.kc)
section
variable {u w : World} {g b : Nat}
theorem put6_block {k : Nat} (hk : k ≠ g) (n : Nd) : (put6 w g n).heap[k]? = w.heap[k]? := by
  unfold put6
  rw [Below.heap_setCell _ _ _ k hk, Below.heap_setCell _ _ _ k hk, Below.heap_setCell _ _ _ k hk, Below.heap_setCell _ _ _ k hk, Below.heap_setCell _ _ _ k hk, Below.heap_setCell _ _ _ k hk]
theorem Onl.put6 (h : Onl b u w) (hg : u.heap.size ≤ g) (n : Nd) : Onl b u (put6 w g n) :=
  (((((h.setNew hg _).setNew hg _).setNew hg _).setNew hg _).setNew hg _).setNew hg _
theorem Rg.put6 {s : ByteArray} {p op bad er : Nat} (h : Rg w b s p op bad er) (hg : g ≠ b) (n : Nd) : Rg (put6 w g n) b s p op bad er := (put6_block (Ne.symm hg) n).trans h
theorem TreeN.put6 {B : Nat → Prop} {t : RT} {nd : Nd} (h : TreeN w B t nd) (hg : ∀ k, B k → k < w.heap.size → k ≠ g) (n : Nd) : TreeN (put6 w g n) B t nd :=
  h.kept (fun k hk hl => put6_block (hg k hk hl) n) (fun _ h _ => h)
end
end Go.Proofs.YtjjejcgpeefclaaDoor

namespace Go.Proofs.YtjjejcgpeefclaaDoor
/-- What the walk of a drawn region is tidied by: seven rules in one. -/
theorem nrm : (∀ {α : Type} {xs : List α} {i : Nat} (h : i < xs.toArray.size), xs.toArray[i] = xs[i]'(by simpa using h)) ∧ (∀ {α : Type} {a : α} {l : List α} (h : 0 < (a :: l).length), (a :: l)[0] = a) ∧ (∀ {α : Type} {a : α} {l : List α} {i : Nat} (h : i + 1 < (a :: l).length), (a :: l)[i + 1] = l[i]'(by simpa using h)) ∧
    (∀ (a : Act) (i : Tmp) (v : Value), a.put (some i) v = { a with tmps := a.tmps.setIfInBounds i v }) ∧ (∀ (a : Act) (v : Value), a.put none v = a) ∧ (∀ {α : Type} {l : List α} {i : Nat} {a : α}, l.toArray.setIfInBounds i a = (l.set i a).toArray) ∧ (∀ {α : Type} {a b : α} {l : List α}, (a :: l).set 0 b = b :: l) ∧ (∀ {α : Type} {a b : α} {l : List α} {n : Nat}, (a :: l).set (n + 1) b = a :: l.set n b) :=
  ⟨fun _ => by simp, fun _ => rfl, fun _ => rfl, fun _ _ _ => rfl, fun _ _ => rfl, by simp, rfl, rfl⟩
open Go

section
variable {P : Program} {ops : Array Oper} {Q : Exit → Act → World → Prop} {md : Region.Mode} {S : World → Prop} {st : List Nat}

/-- As long as none of the stores has come up, S. -/
def StS (st : List Nat) (S : World → Prop) (listed : Array Bool) (w : World) : Prop := (∀ j ∈ st, listed.getD j true = false) → S w
def wpAnyL (P : Program) (md : Region.Mode) (ops : Array Oper) (Q : Exit → Act → World → Prop) (st : List Nat) (S : World → Prop) : Nat → Array Bool → Act → World → Prop
  | 0, listed, a, w => Region.ready md ops listed = [] ∧ Q .normal a w
  | fuel + 1, listed, a, w =>
    (Region.ready md ops listed = [] → Q .normal a w) ∧
    ∀ i ∈ Region.ready md ops listed, wpOp P ops Q i (fun a' w' => StS st S (listed.setIfInBounds i true) w' ∧ wpAnyL P md ops Q st S fuel (listed.setIfInBounds i true) a' w') a w
theorem wpAny_of_L : ∀ (fuel : Nat) (listed : Array Bool) (a : Act) (w : World), wpAnyL P md ops Q st S fuel listed a w → wpAny P md ops Q fuel listed a w
  | 0, _, _, _, h => h
  | fuel + 1, _, _, _, h => ⟨h.1, fun i hi => wpOp_mono (fun a' w' h' => wpAny_of_L fuel _ a' w' h'.2) (h.2 i hi)⟩
/-- The operation j waits for i, by itself or by what it waits for. -/
def wto (md : Region.Mode) (ops : Array Oper) (i : Nat) : Nat → Nat → Bool
  | 0, _ => false
  | n + 1, j => match ops[j]? with
    | some o => o.after.any fun e => Region.binds md e && (e.on == i || wto md ops i n e.on)
    | none => false
/-- Every store waits for i. -/
def waits (md : Region.Mode) (ops : Array Oper) (st : List Nat) (i : Nat) : Bool := st.all fun j => wto md ops i 5 j
/-- What has come up waited for what has come up. -/
def Clo (md : Region.Mode) (ops : Array Oper) (listed : Array Bool) : Prop := ∀ (k : Nat) ok, ops[k]? = some ok → listed.getD k false = true → ∀ e ∈ ok.after, Region.binds md e = true → listed.getD e.on false = true
def cloB (md : Region.Mode) (ops : Array Oper) (listed : Array Bool) : Bool := (List.range ops.size).all fun k => match ops[k]? with
  | some ok => !listed.getD k false || ok.after.all fun e => !Region.binds md e || listed.getD e.on false
  | none => true
theorem clo_of {listed : Array Bool} (h : cloB md ops listed = true) : Clo md ops listed := fun k ok hk hl e he hb => by
  have hlt : k < ops.size := (Array.getElem?_eq_some_iff.1 hk).1
  have := List.all_eq_true.1 h k (List.mem_range.2 hlt)
  simp only [hk, hl, Bool.not_true, Bool.false_or] at this
  have := Array.all_eq_true_iff_forall_mem.1 this e he
  simpa [hb] using this
theorem wto_listed {i : Nat} {listed : Array Bool} (hclo : Clo md ops listed) : ∀ (n k : Nat) ok, ops[k]? = some ok → (∀ e ∈ ok.after, Region.binds md e = true → listed.getD e.on false = true) → wto md ops i n k = true → listed.getD i false = true
  | 0, _, _, _, _, h => by simp [wto] at h
  | n + 1, k, ok, hk, hall, h => by
    simp only [wto, hk, Array.any_eq_true'] at h
    obtain ⟨e, he, hb⟩ := h
    rw [Bool.and_eq_true, Bool.or_eq_true, beq_iff_eq] at hb
    have hl := hall e he hb.1
    rcases hb.2 with h | h
    · rw [← h]; exact hl
    · cases hoe : ops[e.on]? with
      | none => cases n <;> simp [wto, hoe] at h
      | some o2 => exact wto_listed hclo n e.on o2 hoe (fun e2 he2 hb2 => hclo e.on o2 hoe hl e2 he2 hb2) h
theorem wpAnyL_first {i : Nat} {oi : Oper} {v : Value} (hi : ops[i]? = some oi) (hsel : ∀ (j : Nat) (o : Oper) cs b, ops[j]? = some o → o.op ≠ .select cs b)
    (hQ : ∀ c a w, Q (.panic c) (a.put oi.dst v) w → Q (.panic c) a w) (hist : i ∉ st) (hw : waits md ops st i = true) :
    ∀ (fuel : Nat) (listed : Array Bool) (a : Act) (w : World),
      (∀ j oj, ops[j]? = some oj → j ≠ i → listed.getD j true = false → (∀ e ∈ oj.after, Region.binds md e = true → e.on ≠ i) → oi.apart ops oj = true) →
      i ∈ Region.ready md ops listed → YieldsIf P ops S oi v a → (∀ j ∈ st, listed.getD j true = false) → Clo md ops listed → S w →
      wpAnyL P md ops Q st S fuel (listed.setIfInBounds i true) (a.put oi.dst v) w → wpAnyL P md ops Q st S (fuel + 1) listed a w := by
  intro fuel
  induction fuel with
  | zero =>
    intro listed a w _ hr hy _ _ hS H
    refine ⟨fun h => (by rw [h] at hr; cases hr), fun j hj => ?_⟩
    by_cases hji : j = i
    · subst hji; exact hy.wpOp hi hS ⟨fun _ => hS, H⟩
    · have := ready_mono hj hji
      rw [H.1] at this
      cases this
  | succ fuel ih =>
    intro listed a w hfree hr hy hun hclo hS H
    refine ⟨fun h => (by rw [h] at hr; cases hr), fun j hj => ?_⟩
    by_cases hji : j = i
    · subst hji; exact hy.wpOp hi hS ⟨fun _ => hS, H⟩
    · have h1 := H.2 j (ready_mono hj hji)
      obtain ⟨hjun, oj, hoj, hall⟩ := mem_ready.1 hj
      have h0 := (mem_ready.1 hr).1
      have hnot : ∀ e ∈ oj.after, Region.binds md e = true → e.on ≠ i := fun e he hb heq => by
        have h1 := hall e he hb
        rw [heq] at h1
        rcases Nat.lt_or_ge i listed.size with h' | h'
        · simp [h'] at h0 h1; rw [h0] at h1; cases h1
        · simp [Array.getElem?_eq_none h'] at h1
      have hjst : j ∉ st := fun hm => by
        have hl := wto_listed hclo 5 j oj hoj (fun e he hb => by
          have h1 := hall e he hb
          rcases Nat.lt_or_ge e.on listed.size with h' | h'
          · simpa [h'] using h1
          · simp [Array.getElem?_eq_none h'] at h1) (List.all_eq_true.1 hw j hm)
        rcases Nat.lt_or_ge i listed.size with h' | h'
        · simp [h'] at h0 hl; rw [h0] at hl; cases hl
        · simp [Array.getElem?_eq_none h'] at hl
      have hclo' : Clo md ops (listed.setIfInBounds j true) := fun k ok hk hl e he hb => by
        refine getD_set_true ?_
        by_cases hjk : j = k
        · subst hjk
          rw [hoj] at hk
          obtain rfl := Option.some.inj hk
          exact hall e he hb
        · rw [getD_set_ne false hjk] at hl
          exact hclo k ok hk hl e he hb
      have hun' : ∀ s ∈ st, (listed.setIfInBounds j true).getD s true = false := fun s hs => by
        rw [getD_set_ne true (show j ≠ s from fun e => hjst (e ▸ hs))]; exact hun s hs
      have h2 := wpOp_putIf hoj (hfree j oj hoj hji hjun hnot) (fun cs b => hsel i oi cs b hi) (fun cs b => hsel j oj cs b hoj) hQ hy h1
      have hfree' : ∀ k ok, ops[k]? = some ok → k ≠ i → (listed.setIfInBounds j true).getD k true = false →
          (∀ e ∈ ok.after, Region.binds md e = true → e.on ≠ i) → oi.apart ops ok = true := fun k ok hk hki hun hno => by
        refine hfree k ok hk hki ?_ hno
        by_cases hjk : j = k
        · subst hjk; exact hjun
        · rw [getD_set_ne true hjk] at hun; exact hun
      refine wpOp_mono (fun a' w' h3 => ?_) h2
      have hS' : S w' := h3.2.1 fun s hs => by
        rw [getD_set_ne true (show j ≠ s from fun e => hjst (e ▸ hs)), getD_set_ne true (show i ≠ s from fun e => hist (e ▸ hs))]; exact hun s hs
      refine ⟨fun _ => hS', ih (listed.setIfInBounds j true) a' w' hfree' (ready_mono hr (Ne.symm hji)) h3.1 hun' hclo' hS' ?_⟩
      rw [Array.setIfInBounds_comm _ _ hji]
      exact h3.2.2
/-- Take number i first. -/
theorem wpAnyL_take {i : Nat} {oi : Oper} {v : Value} {fuel : Nat} {listed : Array Bool} {a : Act} {w : World} (hi : ops[i]? = some oi)
    (hs : Region.noSelect ops = true) (hf : Region.free md ops listed i = true) (hr : (Region.ready md ops listed).contains i = true) (hist : st.contains i = false) (hw : waits md ops st i = true) (hun : (st.all fun j => listed.getD j true == false) = true) (hclo : cloB md ops listed = true)
    (hQ : ∀ c a w, Q (.panic c) (a.put oi.dst v) w → Q (.panic c) a w) (hy : YieldsIf P ops S oi v a) (hS : S w)
    (h : wpAnyL P md ops Q st S fuel (listed.setIfInBounds i true) (a.put oi.dst v) w) : wpAnyL P md ops Q st S (fuel + 1) listed a w :=
  wpAnyL_first hi (Region.noSelect_spec hs) hQ (by simpa using hist) hw fuel listed a w (Region.free_spec hi hf) (by simpa using hr) hy (fun j hj => by simpa using List.all_eq_true.1 hun j hj) (clo_of hclo) hS h
/-- wpAnyL_take in few words. -/
theorem tkL (i : Nat) {oi : Oper} {v : Value} {fuel : Nat} {listed : Array Bool} {a : Act} {w : World} (hi : ops[i]? = some oi) (hv : ∀ w, S w → (execOp a.eval oi).run P w = .ok (.value v) w)
    (h : wpAnyL P md ops Q st S fuel (listed.setIfInBounds i true) (a.put oi.dst v) w) (hs : Region.noSelect ops = true := by kernel_rfl) (hf : Region.free md ops listed i = true := by kernel_rfl) (hr : (Region.ready md ops listed).contains i = true := by kernel_rfl) (hist : st.contains i = false := by decide) (hw : waits md ops st i = true := by kernel_rfl) (hun : (st.all fun j => listed.getD j true == false) = true := by kernel_rfl) (hclo : cloB md ops listed = true := by kernel_rfl)
    (hQ : ∀ c a w, Q (.panic c) (a.put oi.dst v) w → Q (.panic c) a w := by exact fun _ _ _ h => h) (hwa : Region.wanted oi (yielded ops a.tmps) = true := by rfl) (hS : S w := by assumption) : wpAnyL P md ops Q st S (fuel + 1) listed a w :=
  wpAnyL_take hi hs hf hr hist hw hun hclo hQ (Or.inl ⟨hwa, hv⟩) hS h
theorem skL (i : Nat) {oi : Oper} {fuel : Nat} {listed : Array Bool} {a : Act} {w : World} (hi : ops[i]? = some oi)
    (h : wpAnyL P md ops Q st S fuel (listed.setIfInBounds i true) (a.put oi.dst undef) w) (hs : Region.noSelect ops = true := by kernel_rfl) (hf : Region.free md ops listed i = true := by kernel_rfl) (hr : (Region.ready md ops listed).contains i = true := by kernel_rfl) (hist : st.contains i = false := by decide) (hw : waits md ops st i = true := by kernel_rfl) (hun : (st.all fun j => listed.getD j true == false) = true := by kernel_rfl) (hclo : cloB md ops listed = true := by kernel_rfl)
    (hQ : ∀ c a w, Q (.panic c) (a.put oi.dst undef) w → Q (.panic c) a w := by exact fun _ _ _ h => h) (hwa : Region.wanted oi (yielded ops a.tmps) = false := by rfl) (hS : S w := by assumption) : wpAnyL P md ops Q st S (fuel + 1) listed a w :=
  wpAnyL_take hi hs hf hr hist hw hun hclo hQ (Or.inr ⟨hwa, rfl⟩) hS h
/-- Each of the operations 'rs' comes up next. -/
def AllReadyL (P : Program) (md : Region.Mode) (ops : Array Oper) (Q : Exit → Act → World → Prop) (st : List Nat) (S : World → Prop) (fuel : Nat) (listed : Array Bool) (a : Act) (w : World) (rs : List Nat) : Prop :=
  ∀ i ∈ rs, wpOp P ops Q i (fun a' w' => StS st S (listed.setIfInBounds i true) w' ∧ wpAnyL P md ops Q st S fuel (listed.setIfInBounds i true) a' w') a w
theorem AllReadyL.nil {fuel : Nat} {listed : Array Bool} {a : Act} {w : World} : AllReadyL P md ops Q st S fuel listed a w [] := fun _ h => by cases h
/-- A call: S is shown anew. -/
theorem AllReadyL.cons {fuel : Nat} {listed : Array Bool} {a : Act} {w : World} {i : Nat} {o : Oper} {rs : List Nat} (ho : ops[i]? = some o)
    (h : ∀ K' : Act → World → Prop, Shut (∀ a w, S w → (S w → wpAnyL P md ops Q st S fuel (listed.setIfInBounds i true) a w) → K' a w) → if Region.wanted o (yielded ops a.tmps) = true then Oper.wp P o a w K' Q else K' (a.put o.dst undef) w)
    (hs : AllReadyL P md ops Q st S fuel listed a w rs) : AllReadyL P md ops Q st S fuel listed a w (i :: rs) := fun j hj => by
  rcases List.mem_cons.1 hj with rfl | hj
  · exact wpOp_step ho (fun K' hK => h K' (fun a w hS hW => hK a w ⟨fun _ => hS, hW hS⟩))
  · exact hs j hj
/-- A store: S is asked for no more. -/
theorem AllReadyL.store {fuel : Nat} {listed : Array Bool} {a : Act} {w : World} {i : Nat} {o : Oper} {rs : List Nat} (ho : ops[i]? = some o) (hst : st.contains i = true) (hlt : i < listed.size)
    (h : ∀ K' : Act → World → Prop, Shut (∀ a w, wpAnyL P md ops Q st S fuel (listed.setIfInBounds i true) a w → K' a w) → if Region.wanted o (yielded ops a.tmps) = true then Oper.wp P o a w K' Q else K' (a.put o.dst undef) w)
    (hs : AllReadyL P md ops Q st S fuel listed a w rs) : AllReadyL P md ops Q st S fuel listed a w (i :: rs) := fun j hj => by
  rcases List.mem_cons.1 hj with rfl | hj
  · refine wpOp_step ho (fun K' hK => h K' (fun a w hW => hK a w ⟨fun hun => ?_, hW⟩))
    have := hun j (by simpa using hst)
    simp [Array.getD, hlt] at this
  · exact hs j hj
theorem wpAnyL_ready {rs : List Nat} {fuel : Nat} {listed : Array Bool} {a : Act} {w : World} (hr : Region.ready md ops listed = rs) (hne : rs ≠ [])
    (h : AllReadyL P md ops Q st S fuel listed a w rs) : wpAnyL P md ops Q st S (fuel + 1) listed a w := ⟨fun h0 => absurd (hr ▸ h0) hne, hr ▸ h⟩
theorem wpAnyL_done {listed : Array Bool} {a : Act} {w : World} (hr : Region.ready md ops listed = []) (h : Q .normal a w) : ∀ fuel, wpAnyL P md ops Q st S fuel listed a w
  | 0 => ⟨hr, h⟩
  | _ + 1 => ⟨fun _ => h, by rw [hr]; simp⟩
/-- The one that comes up next. -/
theorem rdL (i : Nat) {fuel : Nat} {listed : Array Bool} {a : Act} {w : World} {o : Oper} (ho : ops[i]? = some o)
    (h : ∀ K' : Act → World → Prop, Shut (∀ a w, S w → (S w → wpAnyL P md ops Q st S fuel (listed.setIfInBounds i true) a w) → K' a w) → if Region.wanted o (yielded ops a.tmps) = true then Oper.wp P o a w K' Q else K' (a.put o.dst undef) w)
    (hr : Region.ready md ops listed = [i] := by kernel_rfl) : wpAnyL P md ops Q st S (fuel + 1) listed a w :=
  wpAnyL_ready hr (by simp) (AllReadyL.cons ho h AllReadyL.nil)
/-- The beginning. -/
theorem wp_region_L {id : Nat} {a : Act} {w : World} (hm : P.follows .mixedOrders = true) (hS : S w.drew)
    (h : S w.drew → wpAnyL P .any ops Q st S ops.size (Array.replicate ops.size false) a w.drew) : (Code.region id ops true).wp P Q a w :=
  wp_region_any hm (wpAny_of_L _ _ _ _ (h hS))
end
end Go.Proofs.YtjjejcgpeefclaaDoor
