/-
 TREES of layer 12: as mathematics, and in memory, each node with its place; a row of nodes that are trees.
-/
import Derived.Test.YtmbfdkiejneheaaGreatDoorRows
import Derived.WalkKit
import Derived.WalkSpells
import Derived.WalkLawsBesides
import Derived.Test.YtmbfdkiejneheaaGreatDoorShelf
import Derived.Maps.AppendAt
import Derived.OwnWalk
import Derived.Below
import Derived.Lib.Hide
import Derived.WalkMore
import Derived.RegionTactic
import Derived.IntWalk
import Derived.ChangeAlike
import Derived.RangeFuncBound
namespace Go.Proofs.YtmbfdkiejneheaaGreatDoor
open Go.RowKit

def cutB (s : ByteArray) (k : Nat) : ByteArray := if k < s.size then s.extract 0 k else s
theorem cutB_size (s : ByteArray) (k : Nat) : (cutB s k).size ≤ k := by
 unfold cutB; split
 ·
  simp; omega
 ·
  omega
set_option maxHeartbeats 400000 in
theorem cut_any (s : ByteArray) (k : Nat) (w : World) (_hs : s.size ≤ maxLen) (_hk : k ≤ 100000) :
  Calls Tryz.prog 10 #[.string s, .int .i64 k] w fun e w' => e = .returned (.string (cutB s k)) ∧ w = w' := by
 unfold maxLen at _hs
 by_cases h : k < s.size
 ·
  have e : cutB s k = s.extract 0 k := by unfold cutB; rw [if_pos h]
  rw [e]
  go_enter Tryz.func10, Tryz.ntmps10
  go_wp2
  go_ret
  exact ⟨rfl, rfl⟩
 ·
  have e : cutB s k = s := by unfold cutB; rw [if_neg h]
  rw [e]
  go_enter Tryz.func10, Tryz.ntmps10
  go_wp2
  go_ret
  exact ⟨rfl, rfl⟩
end Go.Proofs.YtmbfdkiejneheaaGreatDoor

namespace Go.Proofs.YtmbfdkiejneheaaGreatDoor.An
open Go.RowKit

/-- A tree. -/
inductive T where
 | mk (op tx : ByteArray) (pl : Int) (ks : List T)
def T.op : T → ByteArray | .mk a _ _ _ => a
def T.tx : T → ByteArray | .mk _ b _ _ => b
def T.pl : T → Int | .mk _ _ c _ => c
def T.ks : T → List T | .mk _ _ _ d => d
mutual
def T.size : T → Nat
 | .mk _ _ _ ks => 1 + sizeL ks
def sizeL : List T → Nat
 | [] => 0
 | t :: l => t.size + sizeL l
end
mutual
def T.depth : T → Nat
 | .mk _ _ _ ks => 1 + depthL ks
def depthL : List T → Nat
 | [] => 0
 | t :: l => max t.depth (depthL l)
end
/-- A node as a value. -/
structure Nd where
 op : ByteArray
 tx : ByteArray
 pl : Int
 kp : Option Addr
 kn : Nat
 kc : Nat
def Nd.val (n : Nd) : Value := .agg #[.string n.op, .string n.tx, .int .i64 n.pl, .slice n.kp n.kn n.kc]
def Nd.vals (n : Nd) : List Value := [.string n.op, .string n.tx, .int .i64 n.pl, .slice n.kp n.kn n.kc]
def ndRow : List Nd → List Value
 | [] => []
 | t :: l => t.vals ++ ndRow l
theorem ndRow_append : ∀ (l m : List Nd), ndRow (l ++ m) = ndRow l ++ ndRow m
 | [], _ => rfl
 | t :: l, m => by show t.vals ++ ndRow (l ++ m) = _; rw [ndRow_append l m]; simp [ndRow]
theorem ndRow_len : ∀ l : List Nd, (ndRow l).length = l.length * 4
 | [] => rfl
 | t :: l => by show (t.vals ++ ndRow l).length = _; rw [List.length_append, ndRow_len l]; simp [Nd.vals]; omega
theorem ndRow_get : ∀ (l : List Nd) (i j : Nat) (h : i < l.length), j < 4 → (ndRow l)[i * 4 + j]? = l[i].vals[j]?
 | t :: l, 0, j, _, hj => by
  show (t.vals ++ ndRow l)[0 * 4 + j]? = t.vals[j]?
  rw [List.getElem?_append_left (by show 0 * 4 + j < 4; omega), show 0 * 4 + j = j from by omega]
 | t :: l, i + 1, j, h, hj => by
  show (t.vals ++ ndRow l)[(i + 1) * 4 + j]? = (l[i]'(by simpa using h)).vals[j]?
  rw [List.getElem?_append_right (by show 4 ≤ (i + 1) * 4 + j; omega), show (i + 1) * 4 + j - t.vals.length = i * 4 + j from by show (i + 1) * 4 + j - 4 = _; omega]
  exact ndRow_get l i j (by simpa using h) hj
/-- A tree whose nodes have places in memory: block and cell. -/
inductive AT where
 | mk (op tx : ByteArray) (pl : Int) (kp : Option Addr) (kc g o : Nat) (ks : List AT)
def AT.g : AT → Nat | .mk _ _ _ _ _ g _ _ => g
def AT.o : AT → Nat | .mk _ _ _ _ _ _ o _ => o
def AT.ks : AT → List AT | .mk _ _ _ _ _ _ _ ks => ks
def AT.nd : AT → Nd | .mk op tx pl kp kc _ _ ks => ⟨op, tx, pl, kp, ks.length, kc⟩
mutual
def er : AT → T
 | .mk op tx pl _ _ _ _ ks => .mk op tx pl (erL ks)
def erL : List AT → List T
 | [] => []
 | a :: l => er a :: erL l
end
theorem erL_map : ∀ l : List AT, erL l = l.map er
 | [] => by rw [erL]; rfl
 | a :: l => by rw [erL, erL_map l]; rfl
theorem erL_len (l : List AT) : (erL l).length = l.length := by rw [erL_map, List.length_map]
/-- Four cells are a node. -/
structure NodeAt (w : World) (g o : Nat) (n : Nd) : Prop where
 c0 : w.cell? ⟨g, o, none⟩ = some (.string n.op)
 c1 : w.cell? ⟨g, o + 1, none⟩ = some (.string n.tx)
 c2 : w.cell? ⟨g, o + 2, none⟩ = some (.int .i64 n.pl)
 c3 : w.cell? ⟨g, o + 3, none⟩ = some (.slice n.kp n.kn n.kc)
/-- Where a node's kids lie. -/
def Kd (kp : Option Addr) (ks : List AT) : Prop := ks = [] ∨ ∃ kg ko, kp = some ⟨kg, ko, none⟩ ∧ ∀ (i : Nat) (h : i < ks.length), ks[i].g = kg ∧ ks[i].o = ko + i * 4
mutual
def Mem (w : World) (B : Nat → Prop) : AT → Prop
 | .mk op tx pl kp kc g o ks => B g ∧ NodeAt w g o ⟨op, tx, pl, kp, ks.length, kc⟩ ∧ Kd kp ks ∧ MemL w B ks
def MemL (w : World) (B : Nat → Prop) : List AT → Prop
 | [] => True
 | a :: l => Mem w B a ∧ MemL w B l
end
theorem Mem.iff {w : World} {B : Nat → Prop} {a : AT} : Mem w B a ↔ B a.g ∧ NodeAt w a.g a.o a.nd ∧ Kd a.nd.kp a.ks ∧ MemL w B a.ks := by
 cases a; unfold Mem; exact Iff.rfl
theorem MemL.nil (w : World) (B : Nat → Prop) : MemL w B [] := by unfold MemL; trivial
theorem MemL.cons {w : World} {B : Nat → Prop} {a : AT} {l : List AT} : MemL w B (a :: l) ↔ Mem w B a ∧ MemL w B l := by
 rw [MemL]
theorem MemL.all {w : World} {B : Nat → Prop} : ∀ {l : List AT}, MemL w B l → ∀ a ∈ l, Mem w B a
 | [], _, a, h => by cases h
 | x :: l, h, a, ha => by
  obtain ⟨h1, h2⟩ := MemL.cons.1 h
  rcases List.mem_cons.1 ha with rfl | ha
  ·
   exact h1
  ·
   exact MemL.all h2 a ha
theorem MemL.of_all {w : World} {B : Nat → Prop} : ∀ {l : List AT}, (∀ a ∈ l, Mem w B a) → MemL w B l
 | [], _ => MemL.nil w B
 | x :: l, h => MemL.cons.2 ⟨h x (by simp), MemL.of_all fun a ha => h a (List.mem_cons_of_mem _ ha)⟩
theorem NodeAt.lt {w : World} {g o : Nat} {n : Nd} (h : NodeAt w g o n) : g < w.heap.size := World.block_lt_of_cell? _ _ h.c0
theorem NodeAt.kept {w w' : World} {g o : Nat} {n : Nd} (h : NodeAt w g o n) (hk : w'.heap[g]? = w.heap[g]?) : NodeAt w' g o n :=
 ⟨(World.cell?_of_block (a := ⟨g, o, none⟩) hk).trans h.c0, (World.cell?_of_block (a := ⟨g, o + 1, none⟩) hk).trans h.c1, (World.cell?_of_block (a := ⟨g, o + 2, none⟩) hk).trans h.c2, (World.cell?_of_block (a := ⟨g, o + 3, none⟩) hk).trans h.c3⟩
mutual
theorem Mem.turn {w w' : World} {B B' : Nat → Prop} (hk : ∀ g o n, B g → NodeAt w g o n → B' g ∧ NodeAt w' g o n) : ∀ (a : AT), Mem w B a → Mem w' B' a
 | .mk op tx pl kp kc g o ks, h => by
  unfold Mem at h ⊢
  obtain ⟨h1, h2, h3, h4⟩ := h
  obtain ⟨k1, k2⟩ := hk g o _ h1 h2
  exact ⟨k1, k2, h3, MemL.turn hk ks h4⟩
theorem MemL.turn {w w' : World} {B B' : Nat → Prop} (hk : ∀ g o n, B g → NodeAt w g o n → B' g ∧ NodeAt w' g o n) : ∀ (l : List AT), MemL w B l → MemL w' B' l
 | [], _ => MemL.nil _ _
 | a :: l, h => by
  obtain ⟨h1, h2⟩ := MemL.cons.1 h
  exact MemL.cons.2 ⟨Mem.turn hk a h1, MemL.turn hk l h2⟩
end
theorem Mem.kept {w w' : World} {B B' : Nat → Prop} (hk : ∀ g, B g → g < w.heap.size → w'.heap[g]? = w.heap[g]?) (hB : ∀ g, B g → g < w.heap.size → B' g) (a : AT) : Mem w B a → Mem w' B' a :=
 Mem.turn (fun g _ _ h1 h2 => ⟨hB g h1 h2.lt, h2.kept (hk g h1 h2.lt)⟩) a
theorem MemL.kept {w w' : World} {B B' : Nat → Prop} (hk : ∀ g, B g → g < w.heap.size → w'.heap[g]? = w.heap[g]?) (hB : ∀ g, B g → g < w.heap.size → B' g) (l : List AT) : MemL w B l → MemL w' B' l :=
 MemL.turn (fun g _ _ h1 h2 => ⟨hB g h1 h2.lt, h2.kept (hk g h1 h2.lt)⟩) l
theorem Mem.mono {w : World} {B B' : Nat → Prop} {a : AT} (h : Mem w B a) (hB : ∀ g, B g → g < w.heap.size → B' g) : Mem w B' a := Mem.kept (fun _ _ _ => rfl) hB a h
/-- What is no block of cells may be written. -/
theorem NodeAt.put {w : World} {g o k : Nat} {n : Nd} (h : NodeAt w g o n) (hk : ∀ cs e fz, w.heap[k]? ≠ some (.cells cs e fz)) (x : Obj) : NodeAt (w.putObj k x) g o n := by
 have hne : g ≠ k := fun e => by
  subst e
  have h0 := h.c0
  unfold World.cell? at h0
  rcases hh : w.heap[g]? with _ | ob
  ·
   rw [hh] at h0; cases h0
  ·
   rw [hh] at h0
   cases ob with
   | cells cs e fz => exact hk cs e fz hh
   | _ => simp at h0
 exact h.kept (World.putObj_heap_other hne)
theorem Mem.put {w : World} {B : Nat → Prop} {a : AT} (h : Mem w B a) {k : Nat} {r : Loop} (hk : w.heap[k]? = some (.loop r)) (x : Obj) : Mem (w.putObj k x) B a :=
 Mem.turn (fun _ _ _ h1 h2 => ⟨h1, h2.put (fun cs e fz h3 => by rw [hk] at h3; cases h3) x⟩) a h
theorem Mem.next {w w' : World} {B : Nat → Prop} {a : AT} (h : Mem w B a) (hb : Below w.heap.size w w') : Mem w' B a := Mem.kept (fun g _ hl => hb.block g hl) (fun _ h _ => h) a h
theorem MemL.next {w w' : World} {B : Nat → Prop} {l : List AT} (h : MemL w B l) (hb : Below w.heap.size w w') : MemL w' B l := MemL.kept (fun g _ hl => hb.block g hl) (fun _ h _ => h) l h
/-- The nodes of a tree in their order, each with how deep it lies. -/
structure Fe where
 deep : Nat
 a : AT
mutual
def flat (d : Nat) : AT → List Fe
 | .mk op tx pl kp kc g o ks => ⟨d, .mk op tx pl kp kc g o ks⟩ :: flatL (d + 1) ks
def flatL (d : Nat) : List AT → List Fe
 | [] => []
 | a :: l => flat d a ++ flatL d l
end
theorem flat_eq (d : Nat) (a : AT) : flat d a = ⟨d, a⟩ :: flatL (d + 1) a.ks := by cases a; rw [flat]; rfl
theorem flatL_append (d : Nat) : ∀ a b : List AT, flatL d (a ++ b) = flatL d a ++ flatL d b
 | [], b => by rw [flatL]; rfl
 | x :: l, b => by
  show flatL d (x :: (l ++ b)) = _
  rw [flatL, flatL, flatL_append d l b, List.append_assoc]
theorem flatL_one (d : Nat) (a : AT) : flatL d [a] = flat d a := by rw [flatL, flatL, List.append_nil]
mutual
theorem flat_len (d : Nat) : ∀ a : AT, (flat d a).length = (er a).size
 | .mk op tx pl kp kc g o ks => by rw [flat, er, T.size, List.length_cons, flatL_len (d + 1) ks]; omega
theorem flatL_len (d : Nat) : ∀ l : List AT, (flatL d l).length = sizeL (erL l)
 | [] => by rw [flatL, erL, sizeL]; rfl
 | a :: l => by rw [flatL, erL, sizeL, List.length_append, flat_len d a, flatL_len d l]
end
/-- How deep what was met lies at most. -/
def deepF : List Fe → Nat
 | [] => 0
 | x :: l => max (x.deep + 1) (deepF l)
theorem deepF_append : ∀ a b : List Fe, deepF (a ++ b) = max (deepF a) (deepF b)
 | [], b => by simp [deepF]
 | x :: l, b => by show max (x.deep + 1) (deepF (l ++ b)) = _; rw [deepF_append l b]; simp only [deepF]; omega
mutual
theorem flat_deep (d : Nat) : ∀ a : AT, deepF (flat d a) = d + (er a).depth
 | .mk op tx pl kp kc g o ks => by
  rw [flat, er, T.depth, deepF, flatL_deep (d + 1) ks]
  rcases h : depthL (erL ks) with _ | n
  ·
   simp
  ·
   simp; omega
theorem flatL_deep (d : Nat) : ∀ l : List AT, deepF (flatL d l) = if depthL (erL l) = 0 then 0 else d + depthL (erL l)
 | [] => by rw [flatL, erL, depthL]; rfl
 | a :: l => by
  rw [flatL, erL, depthL, deepF_append, flat_deep d a, flatL_deep d l]
  have : 1 ≤ (er a).depth := by cases a; rw [er, T.depth]; omega
  split <;> split <;> omega
end
/-- A value is this tree's root. -/
structure TV (w : World) (B : Nat → Prop) (n : Nd) (ks : List AT) : Prop where
 len : n.kn = ks.length
 kd : Kd n.kp ks
 mem : MemL w B ks
def Nd.t (n : Nd) (ks : List AT) : T := .mk n.op n.tx n.pl (erL ks)
def Nd.at (n : Nd) (g o : Nat) (ks : List AT) : AT := .mk n.op n.tx n.pl n.kp n.kc g o ks
theorem TV.kept {w w' : World} {B B' : Nat → Prop} {n : Nd} {ks : List AT} (h : TV w B n ks) (hk : ∀ g, B g → g < w.heap.size → w'.heap[g]? = w.heap[g]?) (hB : ∀ g, B g → g < w.heap.size → B' g) : TV w' B' n ks :=
 ⟨h.len, h.kd, MemL.kept hk hB ks h.mem⟩
theorem TV.next {w w' : World} {B : Nat → Prop} {n : Nd} {ks : List AT} (h : TV w B n ks) (hb : Below w.heap.size w w') : TV w' B n ks := ⟨h.len, h.kd, h.mem.next hb⟩
theorem TV.at {w : World} {B : Nat → Prop} {n : Nd} {ks : List AT} (h : TV w B n ks) {g o : Nat} (hg : B g) (hn : NodeAt w g o n) : Mem w B (n.at g o ks) := by
 obtain ⟨op, tx, pl, kp, kn, kc⟩ := n
 obtain ⟨h1, h2, h3⟩ := h
 simp only at h1 h2
 subst h1
 exact Mem.iff.2 ⟨hg, hn, h2, h3⟩
theorem node_new (w : World) (n : Nd) : NodeAt (w.alloc (.cells #[.string n.op, .string n.tx, .int .i64 n.pl, .slice n.kp n.kn n.kc] 25)) w.heap.size 0 n :=
 ⟨by simp [go_sem], by simp [go_sem], by simp [go_sem], by simp [go_sem]⟩
/-! A row of nodes that are trees. -/
def Tr (w : World) (B : Nat → Prop) (t : T) (nd : Nd) : Prop := ∃ ks, TV w B nd ks ∧ nd.t ks = t
def Trs (w : World) (B : Nat → Prop) : List T → List Nd → Prop
 | [], nds => nds = []
 | t :: ts, nds => ∃ nd rest, nds = nd :: rest ∧ Tr w B t nd ∧ Trs w B ts rest
theorem Tr.kept {w w' : World} {B B' : Nat → Prop} {t : T} {nd : Nd} (h : Tr w B t nd) (hk : ∀ g, B g → g < w.heap.size → w'.heap[g]? = w.heap[g]?) (hB : ∀ g, B g → g < w.heap.size → B' g) : Tr w' B' t nd := by
 obtain ⟨ks, h1, h2⟩ := h
 exact ⟨ks, h1.kept hk hB, h2⟩
theorem Trs.kept {w w' : World} {B B' : Nat → Prop} (hk : ∀ g, B g → g < w.heap.size → w'.heap[g]? = w.heap[g]?) (hB : ∀ g, B g → g < w.heap.size → B' g) : ∀ {ts : List T} {nds : List Nd}, Trs w B ts nds → Trs w' B' ts nds
 | [], _, h => h
 | t :: ts, nds, h => by
  obtain ⟨nd, rest, h1, h2, h3⟩ := h
  exact ⟨nd, rest, h1, h2.kept hk hB, Trs.kept hk hB h3⟩
theorem Trs.len {w : World} {B : Nat → Prop} : ∀ {ts : List T} {nds : List Nd}, Trs w B ts nds → nds.length = ts.length
 | [], nds, h => by rw [show nds = [] from h]; rfl
 | t :: ts, nds, h => by
  obtain ⟨nd, rest, h1, _, h3⟩ := h
  rw [h1, List.length_cons, h3.len, List.length_cons]
theorem Trs.snoc {w : World} {B : Nat → Prop} {t : T} {nd : Nd} (h : Tr w B t nd) : ∀ {ts : List T} {nds : List Nd}, Trs w B ts nds → Trs w B (ts ++ [t]) (nds ++ [nd])
 | [], nds, h2 => by
  rw [show nds = [] from h2]
  exact ⟨nd, [], rfl, h, rfl⟩
 | u :: ts, nds, h2 => by
  obtain ⟨x, rest, h3, h4, h5⟩ := h2
  subst h3
  exact ⟨x, rest ++ [nd], rfl, h4, h5.snoc h⟩
theorem row_nodes {w : World} {ty : TypeId} {base g c n : Nat} {nds : List Nd} (h : w.ownsRow base ty 4 (.slice (some ⟨g, 0, none⟩) n c) n (ndRow nds)) (hn : nds.length = n) (k : Nat) (hk : k < nds.length) : NodeAt w g (k * 4) nds[k] := by
 have q : ∀ j, j < 4 → w.cell? ⟨g, k * 4 + j, none⟩ = nds[k].vals[j]? := fun j hj => by
  rw [h.cellAt (k * 4 + j) (by omega), ndRow_get _ k j hk hj]
 exact ⟨q 0 (by omega), q 1 (by omega), q 2 (by omega), q 3 (by omega)⟩
/-- The trees of a row, each node with its place. -/
theorem Trs.lay {w : World} {B : Nat → Prop} {g : Nat} : ∀ {ts : List T} {nds : List Nd} (o : Nat), Trs w B ts nds → (∀ k (hk : k < nds.length), NodeAt w g (o + k * 4) nds[k]) → B g →
  ∃ ks : List AT, erL ks = ts ∧ MemL w B ks ∧ ks.length = nds.length ∧ ∀ (i : Nat) (h : i < ks.length), ks[i].g = g ∧ ks[i].o = o + i * 4
 | [], nds, o, h, _, _ => by
  rw [show nds = [] from h]
  exact ⟨[], by rw [erL], MemL.nil _ _, rfl, fun i h => by simp at h⟩
 | t :: ts, nds, o, h, hn, hg => by
  obtain ⟨nd, rest, rfl, ⟨kk, h1, h2⟩, h3⟩ := h
  obtain ⟨ks, i1, i2, i3, i4⟩ := Trs.lay (o + 4) h3 (fun k hk => by
   have := hn (k + 1) (by simpa using hk)
   simp only [List.getElem_cons_succ] at this
   rw [show o + 4 + k * 4 = o + (k + 1) * 4 from by omega]; exact this) hg
  have h0 := hn 0 (by simp)
  simp only [List.getElem_cons_zero, Nat.zero_mul, Nat.add_zero] at h0
  refine ⟨nd.at g o kk :: ks, ?_, MemL.cons.2 ⟨h1.at hg h0, i2⟩, by simp [i3], fun i hi => ?_⟩
  ·
   rw [erL, i1, ← h2]
   simp [Nd.at, er, Nd.t]
  ·
   cases i with
   | zero => exact ⟨rfl, by simp [Nd.at, AT.o]⟩
   | succ i =>
    have := i4 i (by simpa using hi)
    simp only [List.getElem_cons_succ]
    exact ⟨this.1, by rw [this.2]; omega⟩
theorem gather {w : World} {ty : TypeId} {base n c : Nat} {B B' : Nat → Prop} {v : Value} {p : Option Addr} {ts : List T} {nds : List Nd} (hv : v = .slice p n c) (h : w.ownsRow base ty 4 v n (ndRow nds)) (hn : nds.length = n) (ht : Trs w B ts nds) (hB : ∀ g, B g → g < w.heap.size → B' g) (hr : ∀ g, v.ownBlock = some g → B' g) (op tx : ByteArray) (pl : Int) :
  ∃ ks : List AT, TV w B' ⟨op, tx, pl, p, n, c⟩ ks ∧ erL ks = ts := by
 subst hv
 have ht' : Trs w B' ts nds := ht.kept (fun _ _ _ => rfl) hB
 rcases h.2 with ⟨h1, h0⟩ | ⟨g, cap, cur, h1, _⟩
 ·
  have e : nds = [] := List.length_eq_zero_iff.1 (by omega)
  subst e
  have hl := ht.len
  have e2 : ts = [] := List.length_eq_zero_iff.1 (by simpa using hl.symm)
  subst e2
  exact ⟨[], ⟨by simp at hn; simp; omega, .inl rfl, MemL.nil _ _⟩, by rw [erL]⟩
 ·
  injection h1 with e1 e2 e3
  subst e1 e3
  obtain ⟨ks, i1, i2, i3, i4⟩ := Trs.lay (w := w) (B := B') (g := g) 0 ht' (fun k hk => by rw [Nat.zero_add]; exact row_nodes h hn k hk) (hr g rfl)
  exact ⟨ks, ⟨by show n = ks.length; omega, .inr ⟨g, 0, rfl, i4⟩, i2⟩, i1⟩
def VT (w : World) (b : Nat) (n : Nd) (t : T) : Prop := ∃ ks, TV w (fun g => b ≤ g) n ks ∧ n.t ks = t
theorem VT.next {w w' : World} {b : Nat} {n : Nd} {t : T} (h : VT w b n t) (hb : Below w.heap.size w w') : VT w' b n t := by
 obtain ⟨ks, h1, h2⟩ := h
 exact ⟨ks, h1.next hb, h2⟩
theorem VT.less {w : World} {b c : Nat} {n : Nd} {t : T} (h : VT w b n t) (hc : c ≤ b) : VT w c n t := by
 obtain ⟨ks, h1, h2⟩ := h
 exact ⟨ks, h1.kept (fun _ _ _ => rfl) (fun g hg _ => Nat.le_trans hc hg), h2⟩
theorem VT.keep {w w' : World} {b : Nat} {n : Nd} {t : T} (h : VT w b n t) (hk : ∀ g, b ≤ g → g < w.heap.size → w'.heap[g]? = w.heap[g]?) : VT w' b n t := by
 obtain ⟨ks, h1, h2⟩ := h
 exact ⟨ks, h1.kept hk (fun _ h _ => h), h2⟩
theorem as_heap_alloc (w : World) (o : Obj) : (w.alloc o).heap[w.heap.size]? = some o := by
 show (w.heap.push _)[w.heap.size]? = _
 exact Array.getElem?_push_size
theorem as_setCell_block {w : World} {b i : Nat} {cur : Array Value} {e : TypeId} {fz : Nat × Nat} (h : w.heap[b]? = some (.cells cur e fz)) (v : Value) :
  (w.setCell ⟨b, i, none⟩ v).heap[b]? = some (.cells (cur.setIfInBounds i v) e fz) := by
 have hlt : b < w.heap.size := (Array.getElem?_eq_some_iff.1 h).1
 have hv : w.heap[b] = .cells cur e fz := (Array.getElem?_eq_some_iff.1 h).2
 unfold World.setCell
 rw [Array.getElem?_eq_getElem (by simpa using hlt), Array.getElem_modify]
 simp [hv]
theorem as_cell {w : World} {b i : Nat} {cur : Array Value} {e : TypeId} {fz : Nat × Nat} (h : w.heap[b]? = some (.cells cur e fz)) : w.cell? ⟨b, i, none⟩ = cur[i]? := by simp [World.cell?, h]
theorem as_frozen {w : World} {b i : Nat} {cur : Array Value} {e : TypeId} (h : w.heap[b]? = some (.cells cur e (0, 0))) : w.frozen? ⟨b, i, none⟩ = false := by simp [World.frozen?, h]
theorem as_lt {w : World} {b : Nat} {o : Obj} (h : w.heap[b]? = some o) : b < w.heap.size := (Array.getElem?_eq_some_iff.1 h).1
theorem as_succ {W : World} {base : Nat} {e : TypeId} {size : Nat} {v : Value} {k : Nat} {xs : List Value} (h : W.ownsRow base e size v (k + 1) xs) : ∃ g cap, v = .slice (some ⟨g, 0, none⟩) (k + 1) cap := by
 rcases h.2 with ⟨_, h0⟩ | ⟨g, cap, _, rfl, _⟩
 ·
  omega
 ·
  exact ⟨g, cap, rfl⟩
theorem told_size_kid {l : List AT} {a : AT} (h : a ∈ l) : (er a).size ≤ sizeL (erL l) := by
 induction l with
 | nil => cases h
 | cons x l ih =>
  rw [erL, sizeL]
  rcases List.mem_cons.1 h with rfl | h
  ·
   omega
  ·
   have := ih h; omega
theorem told_sizeL_len : ∀ l : List T, l.length ≤ sizeL l
 | [] => Nat.zero_le _
 | t :: l => by
  have := told_sizeL_len l
  have : 1 ≤ t.size := by cases t; rw [T.size]; omega
  rw [sizeL, List.length_cons]; omega
theorem erL_take (ks : List AT) (k : Nat) (h : k < ks.length) : erL (ks.take (k + 1)) = erL (ks.take k) ++ [er ks[k]] := by
 rw [erL_map, erL_map, List.take_succ_eq_append_getElem h, List.map_append]; rfl
end Go.Proofs.YtmbfdkiejneheaaGreatDoor.An
