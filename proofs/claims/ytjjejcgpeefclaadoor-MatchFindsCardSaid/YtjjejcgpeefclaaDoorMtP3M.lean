/-
  MATHEMATICS of layer 10's builder: one part more; kids in memory.
-/
import Derived.Test.YtjjejcgpeefclaaDoorMtP2
namespace Go.Proofs.YtjjejcgpeefclaaDoor
open Go.RowKit

theorem TksL_snoc (g : W4 → Nat → Prop) (t : RT) (x i : Nat) : ∀ (l : List RT) (b : Nat), TksL g (l ++ [t]) b x i ↔ TksL g l b x i ∨ Tks g t (b + leavesN l) x i
  | [], b => by
    simp only [List.nil_append, TksL, leavesN, Nat.add_zero, or_false, false_or, and_false]
    exact ⟨fun h => h.2, fun h => ⟨(Tks.range g t b x i h).2, h⟩⟩
  | u :: l, b => by
    have h := TksL_snoc g t x i l (b + leafN u)
    have e : b + leafN u + leavesN l = b + leavesN (u :: l) := by rw [show leavesN (u :: l) = leafN u + leavesN l from by rw [leavesN]]; omega
    rw [e] at h
    rw [List.cons_append, TksL, TksL, h]
    constructor
    · rintro (h | ⟨h1, h | h⟩)
      · exact .inl (.inl h)
      · exact .inl (.inr ⟨h1, h⟩)
      · exact .inr h
    · rintro ((h | ⟨h1, h⟩) | h)
      · exact .inl h
      · exact .inr ⟨h1, .inl h⟩
      · have := (Tks.range g t _ x i h).1
        have e2 : leavesN (u :: l) = leafN u + leavesN l := by rw [leavesN]
        exact .inr ⟨by omega, .inr h⟩
theorem BhdA_snoc (t : RT) (x y : Nat) : ∀ (l : List RT) (b : Nat), BhdA (l ++ [t]) b x y ↔ BhdA l b x y ∨ Bhd t (b + leavesN l) x y
  | [], b => by simp [BhdA, leavesN]
  | u :: l, b => by
    have h := BhdA_snoc t x y l (b + leafN u)
    have e : b + leafN u + leavesN l = b + leavesN (u :: l) := by rw [show leavesN (u :: l) = leafN u + leavesN l from by rw [leavesN]]; omega
    rw [e] at h
    rw [List.cons_append, BhdA, BhdA, h, or_assoc]
theorem BhdC_snoc (t : RT) (x y : Nat) : ∀ (l : List RT) (b : Nat), BhdC (l ++ [t]) b x y ↔ BhdC l b x y ∨ Bhd t (b + leavesN l) x y ∨ (LstC l b 0 x ∧ Fst t (b + leavesN l) 0 y)
  | [], b => by simp [BhdC, leavesN, LstC, FstC]
  | u :: l, b => by
    have h := BhdC_snoc t x y l (b + leafN u)
    have hf := FstC_snoc t 0 y l (b + leafN u)
    have e : b + leafN u + leavesN l = b + leavesN (u :: l) := by rw [show leavesN (u :: l) = leafN u + leavesN l from by rw [leavesN]]; omega
    rw [e] at h hf
    rw [List.cons_append, BhdC, BhdC, LstC, h, hf]
    constructor
    · rintro (h | (h | h | ⟨h1, h2⟩) | ⟨h1, h | ⟨h2, h3⟩⟩)
      · exact .inl (.inl h)
      · exact .inl (.inr (.inl h))
      · exact .inr (.inl h)
      · exact .inr (.inr ⟨.inl h1, h2⟩)
      · exact .inl (.inr (.inr ⟨h1, h⟩))
      · exact .inr (.inr ⟨.inr ⟨h2, h1⟩, h3⟩)
    · rintro ((h | h | ⟨h1, h2⟩) | h | ⟨h1 | ⟨h1, h2⟩, h3⟩)
      · exact .inl h
      · exact .inr (.inl (.inl h))
      · exact .inr (.inr ⟨h1, .inl h2⟩)
      · exact .inr (.inl (.inr (.inl h)))
      · exact .inr (.inl (.inr (.inr ⟨h1, h3⟩)))
      · exact .inr (.inr ⟨h2, .inr ⟨h1, h3⟩⟩)
theorem leavesN_append : ∀ (a b : List RT), leavesN (a ++ b) = leavesN a + leavesN b
  | [], b => by simp [leavesN]
  | u :: a, b => by rw [List.cons_append, leavesN, leavesN, leavesN_append a b]; omega
theorem empA_snoc (t : RT) (k : Nat) : ∀ l : List RT, empA (l ++ [t]) k = (empA l k || emp t k)
  | [] => by simp [empA]
  | u :: l => by
    rw [List.cons_append]
    unfold empA
    rw [empA_snoc t k l, Bool.or_assoc]
theorem TreesN.get {w : World} {B : Nat → Prop} : ∀ {ts : List RT} {nds : List Nd}, TreesN w B ts nds → ∀ (k : Nat) (t : RT), ts[k]? = some t → ∃ nd, nds[k]? = some nd ∧ TreeN w B t nd
  | [], nds, h, k, t, hk => by simp at hk
  | a :: ts, nds, h, k, t, hk => by
    unfold TreesN at h
    obtain ⟨nd, rest, h1, h2, h3⟩ := h
    subst h1
    cases k with
    | zero =>
      obtain rfl : a = t := by simpa using hk
      exact ⟨nd, rfl, h2⟩
    | succ k =>
      obtain ⟨x, hx⟩ := h3.get k t (by simpa using hk)
      exact ⟨x, by simpa using hx.1, hx.2⟩
/-- Six cells of a node. -/
structure Cells6 (w : World) (g o : Nat) (x : Nd) : Prop where
  c0 : w.cell? ⟨g, o, none⟩ = some (.int .i64 x.op)
  c1 : w.cell? ⟨g, o + 1, none⟩ = some (.int .u64 x.set.a)
  c2 : w.cell? ⟨g, o + 2, none⟩ = some (.int .u64 x.set.b)
  c3 : w.cell? ⟨g, o + 3, none⟩ = some (.int .u64 x.set.c)
  c4 : w.cell? ⟨g, o + 4, none⟩ = some (.int .u64 x.set.d)
  c5 : w.cell? ⟨g, o + 5, none⟩ = some (.slice x.kp x.kn x.kc)
/-- Kids lie where a slice says. -/
def KidsAt (w : World) (B : Nat → Prop) (kp : Option Addr) (ks : List RT) : Prop :=
  ∀ (k : Nat) (t : RT), ks[k]? = some t → ∃ (g : Nat) (x : Nd), kp = some ⟨g, 0, none⟩ ∧ B g ∧ g < w.heap.size ∧ Cells6 w g (k * 6) x ∧ TreeN w B t x
theorem kids_at {w : World} {B : Nat → Prop} {op : Nat} {st : W4} {ks : List RT} {nd : Nd} (h : TreeN w B (.mk op st ks) nd) : KidsAt w B nd.kp ks ∧ nd.kn = ks.length ∧ nd.op = (op : Int) ∧ nd.set = st := by
  unfold TreeN at h
  obtain ⟨h1, h2, nds, h3, h4, h5⟩ := h
  obtain ⟨p, c, hp, _⟩ := rg_own_form h3
  unfold Nd.kids at hp h3 h4
  injection hp with e1 e2 e3
  refine ⟨fun k t hk => ?_, e2, h1, h2⟩
  have hkl : k < ks.length := (List.getElem?_eq_some_iff.1 hk).1
  obtain ⟨x, hx, ht⟩ := h5.get k t hk
  obtain ⟨n, hn⟩ : ∃ n, ks.length = n + 1 := ⟨ks.length - 1, by omega⟩
  have h3' := h3
  rw [hn] at h3'
  obtain ⟨g, c2, hg, _⟩ := rg_own_succ h3'
  injection hg with f1 f2 f3
  have hb := rg_own_base h3 g (by rw [f1]; rfl)
  rw [f1] at h3 h4
  have hl : k < nds.length := by rw [h5.len]; omega
  have he : nds[k] = x := by rw [List.getElem?_eq_getElem hl] at hx; exact Option.some.inj hx
  have q : ∀ j, j < 6 → w.cell? ⟨g, k * 6 + j, none⟩ = x.vals[j]? := fun j hj => by
    rw [f2, ← hn] at h3
    rw [h3.cellAt (k * 6 + j) (by omega), ndRow_get _ k j hl hj, he]
  exact ⟨g, x, f1, h4 g rfl, hb.2, ⟨q 0 (by omega), q 1 (by omega), q 2 (by omega), q 3 (by omega), q 4 (by omega), q 5 (by omega)⟩, ht⟩
theorem Cells6.kept {w w' : World} {g o : Nat} {x : Nd} (h : Cells6 w g o x) (hk : w'.heap[g]? = w.heap[g]?) : Cells6 w' g o x :=
  ⟨(World.cell?_of_block (a := ⟨g, o, none⟩) hk).trans h.c0, (World.cell?_of_block (a := ⟨g, o + 1, none⟩) hk).trans h.c1, (World.cell?_of_block (a := ⟨g, o + 2, none⟩) hk).trans h.c2,
    (World.cell?_of_block (a := ⟨g, o + 3, none⟩) hk).trans h.c3, (World.cell?_of_block (a := ⟨g, o + 4, none⟩) hk).trans h.c4, (World.cell?_of_block (a := ⟨g, o + 5, none⟩) hk).trans h.c5⟩
theorem KidsAt.kept {w w' : World} {B : Nat → Prop} {kp : Option Addr} {ks : List RT} (h : KidsAt w B kp ks) (hk : ∀ g, B g → g < w.heap.size → w'.heap[g]? = w.heap[g]?) (hs : w.heap.size ≤ w'.heap.size) : KidsAt w' B kp ks := fun k t e => by
  obtain ⟨g, x, h1, h2, h3, h4, h5⟩ := h k t e
  exact ⟨g, x, h1, h2, by omega, h4.kept (hk g h2 h3), h5.kept hk (fun _ h _ => h)⟩
theorem KidsAt.chg {C : Nat → Prop} {w w' : World} {B : Nat → Prop} {kp : Option Addr} {ks : List RT} (h : KidsAt w B kp ks) (hc : Chg C w w') (hB : ∀ g, B g → g < w.heap.size → ¬ C g) : KidsAt w' B kp ks :=
  h.kept (fun g hg hl => hc.block g hl (hB g hg hl)) hc.size
/-- A bool of a piece is set. -/
theorem pc_set {w : World} {gp m : Nat} {E : Nat → Bool} {gf gl : Nat} (h : PcB w gp m E gf gl) (i : Nat) (hi : i < 4) (b : Bool) : PcB (w.setCell ⟨gp, i, none⟩ (.bool b)) gp m (fun j => if j = i then b else E j) gf gl := by
  have h1 := rg_setCell (i := i) h (.bool b)
  unfold PcB
  rw [h1]
  have : i = 0 ∨ i = 1 ∨ i = 2 ∨ i = 3 := by omega
  rcases this with rfl | rfl | rfl | rfl <;> simp
theorem pc_cell {w : World} {gp m : Nat} {E : Nat → Bool} {gf gl : Nat} (h : PcB w gp m E gf gl) (i : Nat) (hi : i < 4) : w.cell? ⟨gp, i, none⟩ = some (.bool (E i)) := by
  rw [rg_cell h]
  have : i = 0 ∨ i = 1 ∨ i = 2 ∨ i = 3 := by omega
  rcases this with rfl | rfl | rfl | rfl <;> rfl
theorem PcB.congr {w : World} {gp m : Nat} {E E' : Nat → Bool} {gf gl : Nat} (h : PcB w gp m E gf gl) (e : ∀ i, i < 4 → E i = E' i) : PcB w gp m E' gf gl := by
  unfold PcB at h ⊢
  rw [← e 0 (by omega), ← e 1 (by omega), ← e 2 (by omega), ← e 3 (by omega)]
  exact h
theorem PcZ.kept {w w' : World} {b : Nat} (h : PcZ w b) (hk : w'.heap[b]? = w.heap[b]?) : PcZ w' b := hk.trans h
/-- Which bytes a leaf's set has. -/
def hasP (s : W4) (c : Nat) : Prop := s.has c = true
/-- CONTRACT of piece at a tree. -/
def PieceC (t : RT) : Prop := ∀ (w : World) (d : Bd) (n : Nat) (T B : Nat → Nat → Prop) (nd : Nd) (K : Nat → Prop), d.ok → Bl w d n T B → TreeN w K t nd → (∀ g, K g → g < w.heap.size → ¬ d.own g ∧ g ≠ d.p) → t.Ok → n + leafN t ≤ d.L →
  Calls Tryd.prog 33 #[.pointer (some ⟨d.b, 0, none⟩), nd.val] w (PcPost w d (n + leafN t) (fun c x => T c x ∨ Tks hasP t n x c) (fun r x => B r x ∨ Bhd t n r x) (emp t) (Fst t n) (Lst t n))
end Go.Proofs.YtjjejcgpeefclaaDoor
