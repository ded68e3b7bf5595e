/-
  A RANGE OVER A FUNCTION WHOSE ITERATOR KEEPS STATE OF ITS OWN IN MEMORY: a contract between the iterator and the loop's body in which each says which blocks it writes; and the statement's law out of it. (It leans on the library's wpIn_rangeFunc, roundIn_of_wpIn and the laws on the loop's record.)
-/
import Derived.Test.YtgahamppfdhnaaaDoorRows
import Derived.RangeFuncKeeps
import Derived.RangeFuncLeaves
import Derived.RangeFuncBound
import Derived.RangeFuncCalls
import Derived.Below
namespace Go.Proofs.YtgahamppfdhnaaaDoor
open Go.RowKit

/-- B came of A; what lay outside of C lies as it lay. -/
structure Came (C : Nat → Prop) (A B : World) : Prop where
  os : B.os = A.os
  tape : B.tape = A.tape
  output : B.output = A.output
  size : A.heap.size ≤ B.heap.size
  block : ∀ k, k < A.heap.size → ¬ C k → B.heap[k]? = A.heap[k]?
/-- B came of A; what lay in C lies as it lay. -/
structure Same (C : Nat → Prop) (A B : World) : Prop where
  os : B.os = A.os
  tape : B.tape = A.tape
  output : B.output = A.output
  size : A.heap.size ≤ B.heap.size
  block : ∀ k, C k → B.heap[k]? = A.heap[k]?
theorem Came.refl (C : Nat → Prop) (A : World) : Came C A A := ⟨rfl, rfl, rfl, Nat.le_refl _, fun _ _ _ => rfl⟩
theorem Came.trans {C C' : Nat → Prop} {A B E : World} (h : Came C A B) (g : Came C' B E) (hC : ∀ k, C' k → C k ∨ A.heap.size ≤ k) : Came C A E :=
  ⟨g.os.trans h.os, g.tape.trans h.tape, g.output.trans h.output, Nat.le_trans h.size g.size, fun k hk hn =>
    (g.block k (Nat.lt_of_lt_of_le hk h.size) (fun hc => by
      rcases hC k hc with h1 | h1
      · exact hn h1
      · omega)).trans (h.block k hk hn)⟩
theorem Came.of_below {C : Nat → Prop} {A B : World} {n : Nat} (h : Below n A B) (hn : A.heap.size ≤ n) : Came C A B :=
  ⟨h.os, h.tape, h.output, h.size, fun k hk _ => h.block k (Nat.lt_of_lt_of_le hk hn)⟩
theorem Came.below {C : Nat → Prop} {A B : World} {n : Nat} (h : Came C A B) (hn : n ≤ A.heap.size) (hC : ∀ k, C k → n ≤ k) : Below n A B :=
  ⟨h.os, h.tape, h.output, h.size, fun k hk => h.block k (Nat.lt_of_lt_of_le hk hn) (fun hc => by have := hC k hc; omega)⟩
theorem Same.refl (C : Nat → Prop) (A : World) : Same C A A := ⟨rfl, rfl, rfl, Nat.le_refl _, fun _ _ => rfl⟩
theorem Same.trans {C : Nat → Prop} {A B E : World} (h : Same C A B) (g : Same C B E) : Same C A E :=
  ⟨g.os.trans h.os, g.tape.trans h.tape, g.output.trans h.output, Nat.le_trans h.size g.size, fun k hk => (g.block k hk).trans (h.block k hk)⟩
theorem Same.cell {C : Nat → Prop} {A B : World} (h : Same C A B) {p : Addr} (hp : C p.block) : B.cell? p = A.cell? p := by
  unfold World.cell?; rw [h.block _ hp]
theorem Same.frozen {C : Nat → Prop} {A B : World} (h : Same C A B) {p : Addr} (hp : C p.block) : B.frozen? p = A.frozen? p := by
  unfold World.frozen?; rw [h.block _ hp]
theorem came_put {C : Nat → Prop} (A : World) (l : Nat) (o : Obj) (h : C l) : Came C A (A.putObj l o) :=
  ⟨rfl, rfl, rfl, by simp, fun k _ hn => World.putObj_heap_other (fun e => hn (e ▸ h))⟩
theorem same_put {C : Nat → Prop} (A : World) (l : Nat) (o : Obj) (h : ¬ C l) : Same C A (A.putObj l o) :=
  ⟨rfl, rfl, rfl, by simp, fun k hk => World.putObj_heap_other (fun e => h (e ▸ hk))⟩

/-- THE ITERATOR's CONTRACT. Whatever the rounds say of what has come (J), of the blocks that they own (C) and of the world, if they abide whatever leaves C as it lay: the iterator hands over what it should, one behind the other (S: all have come; Sp: a part has come, a round having said 'no more'). Z: the blocks that the iterator reads, of those that were there. -/
def SeqC {α : Type} (F : Fence) (n : Nat) (P : Program) (g : Nat) (lb : Array Value) (encs : α → Array Value) (S Sp : List α → Prop) (N : Nat) (w : World) (Z : Nat → Prop) : Prop :=
  ∀ (l : Nat) (J Jx : List α → (Nat → Prop) → World → Prop) (C0 : Nat → Prop) (W : World), Below w.heap.size w W → (∀ k, Z k → ¬ C0 k) → (∀ k, C0 k → k < W.heap.size) →
    (∀ pre C A B, J pre C A → Same C A B → J pre C B) → (∀ pre C A B, Jx pre C A → Same C A B → Jx pre C B) →
    (∀ pre x C W1, J pre C W1 → Came C0 W W1 → (∀ k, C k → C0 k ∨ W.heap.size ≤ k) → pre.length < N → Sp (pre ++ [x]) → YieldAt F (n - 1) P l (encs x) W1 fun e W' =>
      ∃ C' : Nat → Prop, (∀ k, C' k → C k ∨ W1.heap.size ≤ k) ∧ (∀ k, C' k → k < W'.heap.size) ∧ Came C W1 W' ∧ ((e = .returned (.bool true) ∧ J (pre ++ [x]) C' W') ∨ (e = .returned (.bool false) ∧ Jx (pre ++ [x]) C' W'))) →
    J [] C0 W →
    CallsIn F n P g (#[.func (.yield l) #[] #[]] ++ lb) W fun e W' => (∃ v, e = .returned v) ∧ Came C0 W W' ∧
      ((∃ xs C, S xs ∧ J xs C W') ∨ (∃ pre C, Sp pre ∧ Jx pre C W'))

/-- HOW THE BODY OF A ROUND MAY BE LEFT. -/
def ownPostC {α : Type} (I : List α → (Nat → Prop) → World → Prop) (Ix : Code → List α → (Nat → Prop) → World → Prop) (C : Nat → Prop) (xs : List α) (W : World) : Exit → Act → World → Prop
  | .normal, _, W' => ∃ C' : Nat → Prop, (∀ k, C' k → C k ∨ W.heap.size ≤ k) ∧ (∀ k, C' k → k < W'.heap.size) ∧ Came C W W' ∧ I xs C' W'
  | .ret, _, W' => ∃ C' : Nat → Prop, (∀ k, C' k → C k ∨ W.heap.size ≤ k) ∧ (∀ k, C' k → k < W'.heap.size) ∧ Came C W W' ∧ Ix .ret xs C' W'
  | .exit id, _, W' => ∃ C' : Nat → Prop, (∀ k, C' k → C k ∨ W.heap.size ≤ k) ∧ (∀ k, C' k → k < W'.heap.size) ∧ Came C W W' ∧ Ix (.exit id) xs C' W'
  | .goto t, _, W' => ∃ C' : Nat → Prop, (∀ k, C' k → C k ∨ W.heap.size ≤ k) ∧ (∀ k, C' k → k < W'.heap.size) ∧ Came C W W' ∧ Ix (.goto t) xs C' W'
  | .panic _, _, _ => False
  | .outgrown, _, _ => False

/-- The blocks of a loop's own besides the body's. -/
def Plus (C : Nat → Prop) (D : Nat) (k : Nat) : Prop := C k ∨ k = D ∨ k = D + 1

theorem plus_no {C : Nat → Prop} {D k : Nat} (h : ¬ C k) (h1 : k ≠ D) (h2 : k ≠ D + 1) : ¬ Plus C D k := fun hp => by
  rcases hp with h3 | h3 | h3
  · exact h h3
  · exact h1 h3
  · exact h2 h3
theorem wpIn_rangeC {F : Fence} {n : Nat} {P : Program} {α : Type} {g : Operand} {ps : Array Tmp} {assign body : Code} {Q : Exit → Act → World → Prop} {a : Act} {w : World}
    (hro : F.round = none) (h1 : 1 ≤ n) {gf : Nat} {lb : Array Value} (hg : a.eval g = .func (.func gf) #[] lb) (hFg : F.fn gf) (eg : ∀ args w, (callFunc gf args).run P w = .ok (.enter gf args) w)
    {encs : α → Array Value} {S Sp : List α → Prop} {N : Nat} {w0 : World} {Z : Nat → Prop} (hseq : SeqC F (n - 1) P gf lb encs S Sp N w0 Z) (hb0 : Below w0.heap.size w0 w) (hps : ∀ x, (encs x).size = ps.size)
    (C0 : Nat → Prop) (hZ : ∀ k, Z k → ¬ C0 k) (hZl : ∀ k, Z k → k < w.heap.size) (hC0 : ∀ k, C0 k → k < w.heap.size)
    (I : List α → (Nat → Prop) → World → Prop) (Ix : Code → List α → (Nat → Prop) → World → Prop)
    (hI : ∀ pre C A B, I pre C A → Same C A B → I pre C B) (hIx : ∀ c pre C A B, Ix c pre C A → Same C A B → Ix c pre C B) (h0 : I [] C0 w) (a₁ : α → Act)
    (hassign : ∀ (l : Nat) (x : α) (W : World) (K : Act → World → Prop), K (a₁ x) W →
      assign.wpIn (F.inRound l) (n - 1 - 1) P (Exit.then K (fun _ _ _ => False)) { tmps := (ps.zip (encs x)).foldl (fun t (p, v) => t.setIfInBounds p v) a.tmps, defers := [] } W)
    (hbody : ∀ (l : Nat) (pre : List α) (x : α) (C : Nat → Prop) (W : World), I pre C W → Came C0 w W → (∀ k, C k → C0 k ∨ w.heap.size + 2 ≤ k) → pre.length < N → Sp (pre ++ [x]) →
      body.wpIn (F.inRound l) (n - 1 - 1) P (ownPostC I Ix C (pre ++ [x]) W) (a₁ x) W)
    (hdone : ∀ (D : Nat) (xs : List α) (C : Nat → Prop) (W : World), S xs → I xs C W → Came C0 w W → (∀ k, C k → C0 k ∨ w.heap.size + 2 ≤ k) → D = w.heap.size → W.heap[D]? = some (.deferred (some [])) → w.heap.size + 2 ≤ W.heap.size →
      Q .normal { a with defers := { target := .collected D, args := #[] } :: a.defers } W)
    (hstop : ∀ (D : Nat) (c : Code) (pre : List α) (C : Nat → Prop) (W : World), Sp pre → Ix c pre C W → Came C0 w W → (∀ k, C k → C0 k ∨ w.heap.size + 2 ≤ k) → D = w.heap.size → W.heap[D]? = some (.deferred (some [])) → w.heap.size + 2 ≤ W.heap.size →
      c.wpIn F n P Q { a with defers := { target := .collected D, args := #[] } :: a.defers } W) :
    (Code.rangeFunc g ps assign body).wpIn F n P Q a w := by
  refine wpIn_rangeFunc ?_
  intro fn hfn
  rw [hro]
  obtain ⟨rec, hrec⟩ : ∃ rec : LoopState → Option Code → Loop, rec = fun st pe => { state := st, pending := pe, fn, tmps := a.tmps, params := ps, assign, body, defers := w.heap.size } := ⟨_, rfl⟩
  obtain ⟨W1, hW1⟩ : ∃ W1, (w.alloc (.deferred (some []))).alloc (.loop (rec .ready none)) = W1 := ⟨_, rfl⟩
  have hz1 : W1.heap.size = w.heap.size + 2 := by rw [← hW1]; simp
  have hL1 : W1.heap[w.heap.size + 1]? = some (.loop (rec .ready none)) := by
    rw [← hW1]; have := World.alloc_heap_new (w.alloc (.deferred (some []))) (.loop (rec .ready none)); rwa [World.size_alloc] at this
  have hK1 : W1.heap[w.heap.size]? = some (.deferred (some [])) := by
    rw [← hW1]; exact (Below.heap_alloc _ _ _ (by simp)).trans (World.alloc_heap_new w _)
  have hbw : Below w.heap.size w W1 := by rw [← hW1]; exact ((Below.refl _ w).alloc (Nat.le_refl _) _).alloc (by simp) _
  have hI1 : I [] C0 W1 := hI _ _ _ _ h0 ⟨hbw.os, hbw.tape, hbw.output, hbw.size, fun k hk => hbw.block k (hC0 k hk)⟩
  have hb1 : Below w0.heap.size w0 W1 := hb0.trans (hbw.mono hb0.size)
  have c01 : Came C0 w W1 := Came.of_below hbw (Nat.le_refl _)
  refine ⟨w.heap.size + 1, [{ target := .collected w.heap.size, args := #[] }], W1, { target := .fn (.func gf) lb, args := #[.func (.yield (w.heap.size + 1)) #[] #[]] }, W1, gf,
    #[.func (.yield (w.heap.size + 1)) #[] #[]] ++ lb, W1, ?_, ?_, ?_, ?_, fun _ => h1, ?_⟩
  · rw [← hW1, hrec]; exact run_enterLoop_outer _ _ _ _ _
  · simp only [resolve, hg]
    simp [go_sem]
  · intro f' hf'; simp [Target.leads] at hf'; subst hf'; exact hFg
  · simp [invoke, go_sem, eg]
  · have far : ∀ {C : Nat → Prop}, (∀ k, C k → C0 k ∨ w.heap.size + 2 ≤ k) → ¬ C w.heap.size ∧ ¬ C (w.heap.size + 1) := fun h => by
      refine ⟨fun hc => ?_, fun hc => ?_⟩
      · rcases h _ hc with h2 | h2
        · have := hC0 _ h2; omega
        · omega
      · rcases h _ hc with h2 | h2
        · have := hC0 _ h2; omega
        · omega
    refine (hseq (w.heap.size + 1)
      (fun pre C W => ∃ C1, C = Plus C1 w.heap.size ∧ (∀ k, C1 k → C0 k ∨ w.heap.size + 2 ≤ k) ∧ I pre C1 W ∧ W.heap[w.heap.size + 1]? = some (.loop (rec .ready none)) ∧ W.heap[w.heap.size]? = some (.deferred (some [])))
      (fun pre C W => ∃ C1 c, C = Plus C1 w.heap.size ∧ (∀ k, C1 k → C0 k ∨ w.heap.size + 2 ≤ k) ∧ Ix c pre C1 W ∧ W.heap[w.heap.size + 1]? = some (.loop (rec .done (some c))) ∧ W.heap[w.heap.size]? = some (.deferred (some [])))
      (Plus C0 w.heap.size) W1 hb1
      (fun k hk hc => by
        rcases hc with h2 | h2 | h2
        · exact hZ k hk h2
        · have := hZl k hk; omega
        · have := hZl k hk; omega)
      (fun k hc => by
        rcases hc with h2 | h2 | h2
        · have := hC0 k h2; omega
        · omega
        · omega)
      (fun pre C A B h hs => by
        obtain ⟨C1, rfl, hf, hi, hl, hk⟩ := h
        exact ⟨C1, rfl, hf, hI _ _ _ _ hi ⟨hs.os, hs.tape, hs.output, hs.size, fun k hk => hs.block k (Or.inl hk)⟩, (hs.block _ (Or.inr (Or.inr rfl))).trans hl, (hs.block _ (Or.inr (Or.inl rfl))).trans hk⟩)
      (fun pre C A B h hs => by
        obtain ⟨C1, c, rfl, hf, hi, hl, hk⟩ := h
        exact ⟨C1, c, rfl, hf, hIx _ _ _ _ _ hi ⟨hs.os, hs.tape, hs.output, hs.size, fun k hk => hs.block k (Or.inl hk)⟩, (hs.block _ (Or.inr (Or.inr rfl))).trans hl, (hs.block _ (Or.inr (Or.inl rfl))).trans hk⟩)
      ?_ ⟨C0, rfl, fun k hk => Or.inl hk, hI1, hL1, hK1⟩).mono ?_
    · -- one round
      rintro pre x C W ⟨C1, rfl, hf, hi, hl, hk⟩ hcm _ hlen hsp
      have hlt : w.heap.size + 1 < W.heap.size := (Array.getElem?_eq_some_iff.1 hl).1
      obtain ⟨nD, nL⟩ := far hf
      have hcw : Came C0 w W := by
        refine ⟨hcm.os.trans c01.os, hcm.tape.trans c01.tape, hcm.output.trans c01.output, Nat.le_trans c01.size hcm.size, fun k hk' hn => ?_⟩
        exact (hcm.block k (by omega) (plus_no hn (by omega) (by omega))).trans (c01.block k hk' hn)
      have hy := run_yield (P := P) (args := encs x) hl (by rw [hrec]; exact hps x)
      rw [hrec] at hy
      refine ⟨fn, _, assign, body, hy, roundIn_of_wpIn hfn (hassign _ x W _ ⟨_, run_beginRound hl (by rw [hrec]), ?_⟩)⟩
      have hl2 : (W.putObj (w.heap.size + 1) (.loop { rec .ready none with state := .busy })).heap[w.heap.size + 1]? = some (.loop { rec .ready none with state := .busy }) := World.putObj_heap_same hlt
      have hk2 : (W.putObj (w.heap.size + 1) (.loop { rec .ready none with state := .busy })).heap[w.heap.size]? = some (.deferred (some [])) := (World.putObj_heap_other (by omega)).trans hk
      have hi2 := hI _ _ _ _ hi (same_put W (w.heap.size + 1) (.loop { rec .ready none with state := .busy }) nL)
      have hcw2 : Came C0 w (W.putObj (w.heap.size + 1) (.loop { rec .ready none with state := .busy })) :=
        hcw.trans (came_put (C := fun k => k = w.heap.size + 1) W _ _ rfl) (fun k e => Or.inr (by omega))
      refine wpIn_mono (hbody _ pre x C1 _ hi2 hcw2 hf hlen hsp) ?_
      have fin : ∀ (jump : Option Code) (C2 : Nat → Prop) (W3 : World), (∀ k, C2 k → C1 k ∨ (W.putObj (w.heap.size + 1) (.loop { rec .ready none with state := .busy })).heap.size ≤ k) → (∀ k, C2 k → k < W3.heap.size) → Came C1 (W.putObj (w.heap.size + 1) (.loop { rec .ready none with state := .busy })) W3 →
          (Instr.endRound (w.heap.size + 1) jump).run P W3 = .ok (.bool jump.isNone) (W3.putObj (w.heap.size + 1) (.loop (rec (if jump.isNone then .ready else .done) jump))) ∧
          (W3.putObj (w.heap.size + 1) (.loop (rec (if jump.isNone then .ready else .done) jump))).heap[w.heap.size + 1]? = some (.loop (rec (if jump.isNone then .ready else .done) jump)) ∧
          (W3.putObj (w.heap.size + 1) (.loop (rec (if jump.isNone then .ready else .done) jump))).heap[w.heap.size]? = some (.deferred (some [])) ∧
          (∀ k, C2 k → C0 k ∨ w.heap.size + 2 ≤ k) ∧ (∀ k, Plus C2 w.heap.size k → Plus C1 w.heap.size k ∨ W.heap.size ≤ k) ∧ (∀ k, Plus C2 w.heap.size k → k < (W3.putObj (w.heap.size + 1) (.loop (rec (if jump.isNone then .ready else .done) jump))).heap.size) ∧
          Came (Plus C1 w.heap.size) W (W3.putObj (w.heap.size + 1) (.loop (rec (if jump.isNone then .ready else .done) jump))) ∧
          Same C2 W3 (W3.putObj (w.heap.size + 1) (.loop (rec (if jump.isNone then .ready else .done) jump))) := fun jump C2 W3 hf2 hb2 hc3 => by
        rw [World.putObj_size] at hf2
        have hl3 : W3.heap[w.heap.size + 1]? = some (.loop { rec .ready none with state := .busy }) := (hc3.block _ (by rw [World.putObj_size]; omega) nL).trans hl2
        have hk3 : W3.heap[w.heap.size]? = some (.deferred (some [])) := (hc3.block _ (by rw [World.putObj_size]; omega) nD).trans hk2
        have hf3 : ∀ k, C2 k → C0 k ∨ w.heap.size + 2 ≤ k := fun k h => by
          rcases hf2 k h with h2 | h2
          · exact hf k h2
          · exact Or.inr (by omega)
        have hr := run_endRound (P := P) jump hl3
        rw [hrec] at hr ⊢
        refine ⟨hr, World.putObj_heap_same (Array.getElem?_eq_some_iff.1 hl3).1, (World.putObj_heap_other (by omega)).trans hk3, hf3, fun k h => ?_, fun k h => ?_, ?_, same_put _ _ _ (far hf3).2⟩
        · rcases h with h2 | h2 | h2
          · exact (hf2 k h2).imp Or.inl id
          · exact Or.inl (Or.inr (Or.inl h2))
          · exact Or.inl (Or.inr (Or.inr h2))
        · rw [World.putObj_size]
          have hl4 := (Array.getElem?_eq_some_iff.1 hl3).1
          rcases h with h2 | h2 | h2
          · exact hb2 k h2
          · omega
          · omega
        · refine ⟨hc3.os, hc3.tape, hc3.output, by have := hc3.size; rw [World.putObj_size] at this; simpa using this, fun k hk' hn => ?_⟩
          have n1 : k ≠ w.heap.size + 1 := fun e => hn (Or.inr (Or.inr e))
          exact (World.putObj_heap_other n1).trans ((hc3.block k (by rw [World.putObj_size]; exact hk') (fun e => hn (Or.inl e))).trans (World.putObj_heap_other n1))
      rintro e a3 W3 hp
      cases e with
      | normal =>
        obtain ⟨C2, hf2, hb2, hc3, hi3⟩ := hp
        obtain ⟨hr, hl4, hk4, hf3, hfp, hbp, hc4, hs4⟩ := fin none C2 W3 hf2 hb2 hc3
        exact ⟨_, _, hr, _, hfp, hbp, hc4, .inl ⟨rfl, C2, rfl, hf3, hI _ _ _ _ hi3 hs4, hl4, hk4⟩⟩
      | ret =>
        obtain ⟨C2, hf2, hb2, hc3, hi3⟩ := hp
        obtain ⟨hr, hl4, hk4, hf3, hfp, hbp, hc4, hs4⟩ := fin (some .ret) C2 W3 hf2 hb2 hc3
        exact ⟨_, _, hr, _, hfp, hbp, hc4, .inr ⟨rfl, C2, .ret, rfl, hf3, hIx _ _ _ _ _ hi3 hs4, hl4, hk4⟩⟩
      | exit id =>
        obtain ⟨C2, hf2, hb2, hc3, hi3⟩ := hp
        obtain ⟨hr, hl4, hk4, hf3, hfp, hbp, hc4, hs4⟩ := fin (some (.exit id)) C2 W3 hf2 hb2 hc3
        exact ⟨_, _, hr, _, hfp, hbp, hc4, .inr ⟨rfl, C2, .exit id, rfl, hf3, hIx _ _ _ _ _ hi3 hs4, hl4, hk4⟩⟩
      | goto t =>
        obtain ⟨C2, hf2, hb2, hc3, hi3⟩ := hp
        obtain ⟨hr, hl4, hk4, hf3, hfp, hbp, hc4, hs4⟩ := fin (some (.goto t)) C2 W3 hf2 hb2 hc3
        exact ⟨_, _, hr, _, hfp, hbp, hc4, .inr ⟨rfl, C2, .goto t, rfl, hf3, hIx _ _ _ _ _ hi3 hs4, hl4, hk4⟩⟩
      | panic ch => exact hp.elim
      | outgrown => exact hp.elim
    · -- behind the iterator
      have back : ∀ {W2 : World} (o : Obj), Came (Plus C0 w.heap.size) W1 W2 → Came C0 w (W2.putObj (w.heap.size + 1) o) ∧ w.heap.size + 2 ≤ (W2.putObj (w.heap.size + 1) o).heap.size := fun {W2} o hcm => by
        refine ⟨⟨hcm.os.trans c01.os, hcm.tape.trans c01.tape, hcm.output.trans c01.output, by have := hcm.size; rw [World.putObj_size]; omega, fun k hk' hn => ?_⟩, by have := hcm.size; rw [World.putObj_size]; omega⟩
        exact (World.putObj_heap_other (by omega)).trans ((hcm.block k (by omega) (plus_no hn (by omega) (by omega))).trans (c01.block k hk' hn))
      rintro e W2 ⟨⟨v, rfl⟩, hcm, (⟨xs, C, hS, C1, rfl, hf, hi, hl, hk⟩ | ⟨pre, C, hSp, C1, c, rfl, hf, hi, hl, hk⟩)⟩
      · obtain ⟨nD, nL⟩ := far hf
        obtain ⟨b1, b2⟩ := back (.loop { rec .ready none with state := .exhausted }) hcm
        have hrun := run_endLoop (P := P) hl (by rw [hrec]; simp)
        rw [hrec] at hrun b1 b2
        exact ⟨none, _, hrun, hdone _ xs C1 _ hS (hI _ _ _ _ hi (same_put _ _ _ nL)) b1 hf rfl ((World.putObj_heap_other (by omega)).trans hk) b2⟩
      · obtain ⟨nD, nL⟩ := far hf
        obtain ⟨b1, b2⟩ := back (.loop { rec .done (some c) with state := .exhausted }) hcm
        have hrun := run_endLoop (P := P) hl (by rw [hrec]; simp)
        rw [hrec] at hrun b1 b2
        exact ⟨some c, _, hrun, hstop _ c pre C1 _ hSp (hIx _ _ _ _ _ hi (same_put _ _ _ nL)) b1 hf rfl ((World.putObj_heap_other (by omega)).trans hk) b2⟩
end Go.Proofs.YtgahamppfdhnaaaDoor
