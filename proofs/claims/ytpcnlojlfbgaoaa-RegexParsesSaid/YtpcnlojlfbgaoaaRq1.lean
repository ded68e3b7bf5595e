/-
  THE DOCUMENT's OWN TREES of layer 9 (scriberef09) in memory: nodes of three cells, rows of them, trees whose sets are texts.
-/
import Derived.Test.YtpcnlojlfbgaoaaRgRf5M
import Derived.Test.YtpcnlojlfbgaoaaRgL
namespace Go.Proofs.Ytpcnlojlfbgaoaa
open Go.RowKit

structure RNd where
  op : Int
  set : ByteArray
  kp : Option Addr
  kn : Nat
  kc : Nat
def RNd.kids (n : RNd) : Value := .slice n.kp n.kn n.kc
def RNd.vals (n : RNd) : List Value := [.int .i64 n.op, .string n.set, .slice n.kp n.kn n.kc]
def RNd.val (n : RNd) : Value := .agg #[.int .i64 n.op, .string n.set, .slice n.kp n.kn n.kc]
def RNd.zero : RNd := ⟨0, ⟨#[]⟩, none, 0, 0⟩
def rdRow : List RNd → List Value
  | [] => []
  | t :: l => t.vals ++ rdRow l
theorem rdRow_append : ∀ (l m : List RNd), rdRow (l ++ m) = rdRow l ++ rdRow m
  | [], _ => rfl
  | t :: l, m => by show t.vals ++ rdRow (l ++ m) = _; rw [rdRow_append l m]; simp [rdRow]
theorem rdRow_one (n : RNd) : rdRow [n] = n.vals := by simp [rdRow]
theorem rdRow_len : ∀ l : List RNd, (rdRow l).length = l.length * 3
  | [] => rfl
  | t :: l => by show (t.vals ++ rdRow l).length = _; rw [List.length_append, rdRow_len l]; simp [RNd.vals]; omega
theorem rdRow_get : ∀ (l : List RNd) (i j : Nat) (h : i < l.length), j < 3 → (rdRow l)[i * 3 + j]? = l[i].vals[j]?
  | t :: l, 0, j, _, hj => by
    show (t.vals ++ rdRow l)[0 * 3 + j]? = t.vals[j]?
    rw [List.getElem?_append_left (by show 0 * 3 + j < 3; omega), show 0 * 3 + j = j from by omega]
  | t :: l, i + 1, j, h, hj => by
    show (t.vals ++ rdRow l)[(i + 1) * 3 + j]? = (l[i]'(by simpa using h)).vals[j]?
    rw [List.getElem?_append_right (by show 3 ≤ (i + 1) * 3 + j; omega), show (i + 1) * 3 + j - t.vals.length = i * 3 + j from by show (i + 1) * 3 + j - 3 = _; omega]
    exact rdRow_get l i j (by simpa using h) hj
/-- The text is the set's bytes. -/
def SetIs (op : Nat) (st : W4) (S : ByteArray) : Prop := op ≤ 8 ∧ (op = 1 → ∃ f, StF f st ∧ S.size ≤ 256 ∧ ∀ c, c < 256 → hasC S.data.toList c = f c)
mutual
/-- The node is this tree's; its rows lie in blocks of the kind B. -/
def TreeM (w : World) (B : Nat → Prop) : RT → RNd → Prop
  | .mk op st ks, nd => nd.op = (op : Int) ∧ SetIs op st nd.set ∧ ∃ nds, w.ownsRow 0 34 3 nd.kids ks.length (rdRow nds) ∧ (∀ g, nd.kids.ownBlock = some g → B g) ∧ TreesM w B ks nds
def TreesM (w : World) (B : Nat → Prop) : List RT → List RNd → Prop
  | [], nds => nds = []
  | t :: ts, nds => ∃ nd rest, nds = nd :: rest ∧ TreeM w B t nd ∧ TreesM w B ts rest
end
mutual
theorem TreeM.kept {w w' : World} {B B' : Nat → Prop} (hk : ∀ g, B g → g < w.heap.size → w'.heap[g]? = w.heap[g]?) (hB : ∀ g, B g → g < w.heap.size → B' g) : ∀ (t : RT) (nd : RNd), TreeM w B t nd → TreeM w' B' t nd
  | .mk op st ks, nd, h => by
    unfold TreeM at h ⊢
    obtain ⟨h1, h2, nds, h3, h4, h5⟩ := h
    exact ⟨h1, h2, nds, rg_own_kept h3 (fun g hg => hk g (h4 g hg) (rg_own_base h3 g hg).2), fun g hg => hB g (h4 g hg) (rg_own_base h3 g hg).2, TreesM.kept hk hB ks nds h5⟩
theorem TreesM.kept {w w' : World} {B B' : Nat → Prop} (hk : ∀ g, B g → g < w.heap.size → w'.heap[g]? = w.heap[g]?) (hB : ∀ g, B g → g < w.heap.size → B' g) : ∀ (ts : List RT) (nds : List RNd), TreesM w B ts nds → TreesM w' B' ts nds
  | [], nds, h => by unfold TreesM at h ⊢; exact h
  | t :: ts, nds, h => by
    unfold TreesM at h ⊢
    obtain ⟨nd, rest, h1, h2, h3⟩ := h
    exact ⟨nd, rest, h1, TreeM.kept hk hB t nd h2, TreesM.kept hk hB ts rest h3⟩
end
theorem TreeM.below {w w' : World} {B : Nat → Prop} {t : RT} {nd : RNd} (h : TreeM w B t nd) (hb : Below w.heap.size w w') : TreeM w' B t nd :=
  TreeM.kept (fun g _ hl => hb.block g hl) (fun _ h _ => h) t nd h
theorem TreesM.below {w w' : World} {B : Nat → Prop} {ts : List RT} {nds : List RNd} (h : TreesM w B ts nds) (hb : Below w.heap.size w w') : TreesM w' B ts nds :=
  TreesM.kept (fun g _ hl => hb.block g hl) (fun _ h _ => h) ts nds h
theorem TreesM.len {w : World} {B : Nat → Prop} : ∀ {ts : List RT} {nds : List RNd}, TreesM w B ts nds → nds.length = ts.length
  | [], nds, h => by unfold TreesM at h; rw [h]; rfl
  | t :: ts, nds, h => by
    unfold TreesM at h
    obtain ⟨nd, rest, h1, _, h3⟩ := h
    rw [h1, List.length_cons, h3.len, List.length_cons]
theorem TreesM.snoc {w : World} {B : Nat → Prop} {t : RT} {nd : RNd} (h : TreeM w B t nd) : ∀ {ts : List RT} {nds : List RNd}, TreesM w B ts nds → TreesM w B (ts ++ [t]) (nds ++ [nd])
  | [], nds, h2 => by
    unfold TreesM at h2; subst h2
    show TreesM w B [t] [nd]
    unfold TreesM
    exact ⟨nd, [], rfl, h, by unfold TreesM; rfl⟩
  | u :: ts, nds, h2 => by
    unfold TreesM at h2
    obtain ⟨x, rest, h3, h4, h5⟩ := h2
    subst h3
    show TreesM w B (u :: (ts ++ [t])) (x :: (rest ++ [nd]))
    unfold TreesM
    exact ⟨x, rest ++ [nd], rfl, h4, h5.snoc h⟩
theorem TreeM.leaf (w : World) (B : Nat → Prop) (op : Nat) (st : W4) (S : ByteArray) (hS : SetIs op st S) : TreeM w B (.mk op st []) ⟨op, S, none, 0, 0⟩ := by
  unfold TreeM
  exact ⟨rfl, hS, [], World.ownsRow_nil w 0 _ 3, fun g hg => by simp [RNd.kids, Value.ownBlock] at hg, by unfold TreesM; rfl⟩
theorem SetIs.no {op : Nat} (h : op ≠ 1 ∧ op ≤ 8) (st : W4) (S : ByteArray) : SetIs op st S := ⟨h.2, fun e => absurd e h.1⟩
/-- The document's nodes, gathered as its trees are. -/
def gatherM (k : Nat) (p : Option Addr) (n c : Nat) : List RNd → RNd
  | [] => RNd.zero
  | [x] => x
  | _ => ⟨k, ⟨#[]⟩, p, n, c⟩
theorem gatherM_tree {w : World} {B : Nat → Prop} {k : Nat} (hk : k ≠ 1 ∧ k ≤ 8) {p : Option Addr} {c : Nat} : ∀ {ts : List RT} {nds : List RNd}, w.ownsRow 0 34 3 (.slice p nds.length c) nds.length (rdRow nds) → (∀ g, (Value.slice p nds.length c).ownBlock = some g → B g) → TreesM w B ts nds → TreeM w B (gatherR k ts) (gatherM k p nds.length c nds)
  | [], nds, _, _, h3 => by
    unfold TreesM at h3; subst h3
    exact TreeM.leaf w B 0 W4.zero _ (SetIs.no (by decide) _ _)
  | [t], nds, _, _, h3 => by
    unfold TreesM at h3
    obtain ⟨nd, rest, h4, h5, h6⟩ := h3
    unfold TreesM at h6
    subst h6; subst h4
    exact h5
  | t :: u :: ts, nds, h1, h2, h3 => by
    have hl := h3.len
    obtain ⟨x, y, l, rfl⟩ : ∃ x y l, nds = x :: y :: l := by
      rcases nds with _ | ⟨x, _ | ⟨y, l⟩⟩
      · simp at hl
      · simp at hl
      · exact ⟨x, y, l, rfl⟩
    show TreeM w B (.mk k W4.zero (t :: u :: ts)) ⟨k, ⟨#[]⟩, p, (x :: y :: l).length, c⟩
    unfold TreeM
    exact ⟨rfl, SetIs.no hk _ _, x :: y :: l, by rw [← hl]; exact h1, h2, h3⟩
theorem Try.infoRN : (Try.prog.info? 34).map (fun i => (i.zero, i.size, i.bytes)) = some (some (.agg #[.int .i64 0, .string ⟨#[]⟩, .slice none 0 0]), 3, 48) := by kernel_rfl
theorem rnd_new {b : Nat} (w : World) (n : RNd) (hb : w.heap.size = b) : ∀ (j : Nat) (u : Value), n.vals[j]? = some u → (w.alloc (.cells #[.int .i64 n.op, .string n.set, .slice n.kp n.kn n.kc] 34)).cell? (Addr.add ⟨b, 0, none⟩ j) = some u := by
  subst hb
  intro j u hj
  match j, hj with
  | 0, hj => simp [RNd.vals] at hj; subst hj; simp [Addr.add, go_sem]
  | 1, hj => simp [RNd.vals] at hj; subst hj; simp [Addr.add, go_sem]
  | 2, hj => simp [RNd.vals] at hj; subst hj; simp [Addr.add, go_sem]
  | n + 3, hj => simp [RNd.vals] at hj
/-- The cells of a row's node. -/
theorem rdRow_cells {w : World} {base g c : Nat} {nds : List RNd} (h : w.ownsRow base 34 3 (.slice (some ⟨g, 0, none⟩) nds.length c) nds.length (rdRow nds)) (i : Nat) (x : RNd) (hx : nds[i]? = some x) :
    w.cell? ⟨g, i * 3, none⟩ = some (.int .i64 x.op) ∧ w.cell? ⟨g, i * 3 + 1, none⟩ = some (.string x.set) ∧ w.cell? ⟨g, i * 3 + 2, none⟩ = some (.slice x.kp x.kn x.kc) := by
  have hi : i < nds.length := by
    rcases Nat.lt_or_ge i nds.length with h | h
    · exact h
    · rw [List.getElem?_eq_none h] at hx; cases hx
  have he : nds[i] = x := by rw [List.getElem?_eq_getElem hi] at hx; exact Option.some.inj hx
  refine ⟨?_, ?_, ?_⟩
  · rw [h.cellAt (i * 3) (by omega), show i * 3 = i * 3 + 0 from rfl, rdRow_get nds i 0 hi (by omega), he]; rfl
  · rw [h.cellAt (i * 3 + 1) (by omega), rdRow_get nds i 1 hi (by omega), he]; rfl
  · rw [h.cellAt (i * 3 + 2) (by omega), rdRow_get nds i 2 hi (by omega), he]; rfl
/-- Sets: what a set's text says. -/
theorem setIs_of {st : W4} {f : Nat → Bool} (h : StF f st) {S : ByteArray} (hs : S.size ≤ 256) (hS : ∀ c, c < 256 → hasC S.data.toList c = f c) : SetIs 1 st S := ⟨by decide, fun _ => ⟨f, h, hs, hS⟩⟩
end Go.Proofs.Ytpcnlojlfbgaoaa
