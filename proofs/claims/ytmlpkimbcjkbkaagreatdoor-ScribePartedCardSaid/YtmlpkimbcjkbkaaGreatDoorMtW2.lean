/-
  THE ITERATOR of layer 10's leaves: the numbers of a set, one behind the other; nothing is changed between two rounds.
-/
import Derived.Test.YtmlpkimbcjkbkaaGreatDoorRows
import Derived.RangeFuncKeeps
import Derived.RangeFuncLeaves
import Derived.RangeFuncBound
import Derived.RangeFuncCalls
import Derived.Below
import Derived.Test.YtmlpkimbcjkbkaaGreatDoorMtW1
import Derived.WalkMore
import Derived.ScopeJumps
import Derived.LoopIn
import Derived.LoopNIn
import Derived.OwnWalkIn
import Derived.RegionIn
import Derived.Shelf.Abstract
import Derived.Shelf.RegionOpen
import Derived.Sort.QuietTacIn
import Derived.TacticsInMore
namespace Go.Proofs.YtmlpkimbcjkbkaaGreatDoor
open Go.RowKit

/-- THE ITERATOR's CONTRACT: it hands over what it should, one behind the other; nothing else comes of it. -/
def SeqQ {α : Type} (F : Fence) (n : Nat) (P : Program) (g : Nat) (lb : Array Value) (encs : α → Array Value) (S Sp : List α → Prop) (N : Nat) (Kp : World → Prop) : Prop :=
  ∀ (l : Nat) (J Jx : List α → World → Prop) (W : World), Kp W →
    (∀ pre x W1, J pre W1 → Kp W1 → pre.length < N → Sp (pre ++ [x]) → YieldAt F (n - 1) P l (encs x) W1 fun e W' =>
      Kp W' ∧ ((e = .returned (.bool true) ∧ J (pre ++ [x]) W') ∨ (e = .returned (.bool false) ∧ Jx (pre ++ [x]) W'))) →
    J [] W →
    CallsIn F n P g (#[.func (.yield l) #[] #[]] ++ lb) W fun e W' => (∃ v, e = .returned v) ∧ Kp W' ∧ ((∃ xs, S xs ∧ J xs W') ∨ (∃ pre, Sp pre ∧ Jx pre W'))

/-- The loop's own two blocks stand. -/
def Two (D : Nat) (A B : World) : Prop := B.heap[D]? = A.heap[D]? ∧ B.heap[D + 1]? = A.heap[D + 1]?
/-- HOW THE BODY OF A ROUND MAY BE LEFT. -/
def ownPostQ {α : Type} (I : List α → World → Prop) (Ix : Code → List α → World → Prop) (Kp : World → Prop) (D : Nat) (xs : List α) (W : World) : Exit → Act → World → Prop
  | .normal, _, W' => Two D W W' ∧ Kp W' ∧ I xs W'
  | .ret, _, W' => Two D W W' ∧ Kp W' ∧ Ix .ret xs W'
  | .exit id, _, W' => Two D W W' ∧ Kp W' ∧ Ix (.exit id) xs W'
  | .goto t, _, W' => Two D W W' ∧ Kp W' ∧ Ix (.goto t) xs W'
  | .panic _, _, _ => False
  | .outgrown, _, _ => False

theorem wpIn_rangeQ {F : Fence} {n : Nat} {P : Program} {α : Type} {g : Operand} {ps : Array Tmp} {assign body : Code} {Q : Exit → Act → World → Prop} {a : Act} {w : World}
    (hro : F.round = none) (h1 : 1 ≤ n) {gf : Nat} {lb : Array Value} (hg : a.eval g = .func (.func gf) #[] lb) (hFg : F.fn gf) (eg : ∀ args w, (callFunc gf args).run P w = .ok (.enter gf args) w)
    {encs : α → Array Value} {S Sp : List α → Prop} {N : Nat} {Kp : World → Prop} (hseq : SeqQ F (n - 1) P gf lb encs S Sp N Kp) (hps : ∀ x, (encs x).size = ps.size)
    (hKp : ∀ W r o, Kp W → W.heap[w.heap.size + 1]? = some (.loop r) → Kp (W.putObj (w.heap.size + 1) o))
    (I : List α → World → Prop) (Ix : Code → List α → World → Prop)
    (hI : ∀ pre W r o, I pre W → W.heap[w.heap.size + 1]? = some (.loop r) → I pre (W.putObj (w.heap.size + 1) o)) (hIx : ∀ c pre W r o, Ix c pre W → W.heap[w.heap.size + 1]? = some (.loop r) → Ix c pre (W.putObj (w.heap.size + 1) o))
    (hK0 : ∀ r, Kp ((w.alloc (.deferred (some []))).alloc (.loop r))) (h0 : ∀ r, I [] ((w.alloc (.deferred (some []))).alloc (.loop r))) (a₁ : α → Act)
    (hassign : ∀ (l : Nat) (x : α) (W : World) (K : Act → World → Prop), K (a₁ x) W →
      assign.wpIn (F.inRound l) (n - 1 - 1) P (Exit.then K (fun _ _ _ => False)) { tmps := (ps.zip (encs x)).foldl (fun t (p, v) => t.setIfInBounds p v) a.tmps, defers := [] } W)
    (hbody : ∀ (l : Nat) (pre : List α) (x : α) (W : World), I pre W → Kp W → (∃ r, W.heap[w.heap.size + 1]? = some (.loop r)) → W.heap[w.heap.size]? = some (.deferred (some [])) → pre.length < N → Sp (pre ++ [x]) →
      body.wpIn (F.inRound l) (n - 1 - 1) P (ownPostQ I Ix Kp w.heap.size (pre ++ [x]) W) (a₁ x) W)
    (hdone : ∀ (D : Nat) (xs : List α) (W : World), S xs → I xs W → Kp W → D = w.heap.size → W.heap[D]? = some (.deferred (some [])) →
      Q .normal { a with defers := { target := .collected D, args := #[] } :: a.defers } W)
    (hstop : ∀ (D : Nat) (c : Code) (pre : List α) (W : World), Sp pre → Ix c pre W → Kp W → D = w.heap.size → W.heap[D]? = some (.deferred (some [])) →
      c.wpIn F n P Q { a with defers := { target := .collected D, args := #[] } :: a.defers } W) :
    (Code.rangeFunc g ps assign body).wpIn F n P Q a w := by
  refine wpIn_rangeFunc ?_
  intro fn hfn
  rw [hro]
  obtain ⟨rec, hrec⟩ : ∃ rec : LoopState → Option Code → Loop, rec = fun st pe => { state := st, pending := pe, fn, tmps := a.tmps, params := ps, assign, body, defers := w.heap.size } := ⟨_, rfl⟩
  obtain ⟨W1, hW1⟩ : ∃ W1, (w.alloc (.deferred (some []))).alloc (.loop (rec .ready none)) = W1 := ⟨_, rfl⟩
  have hL1 : W1.heap[w.heap.size + 1]? = some (.loop (rec .ready none)) := by
    rw [← hW1]; have := World.alloc_heap_new (w.alloc (.deferred (some []))) (.loop (rec .ready none)); rwa [World.size_alloc] at this
  have hK1 : W1.heap[w.heap.size]? = some (.deferred (some [])) := by
    rw [← hW1]; exact (Below.heap_alloc _ _ _ (by simp)).trans (World.alloc_heap_new w _)
  have hI1 : I [] W1 := by rw [← hW1]; exact h0 _
  have hKp1 : Kp W1 := by rw [← hW1]; exact hK0 _
  refine ⟨w.heap.size + 1, [{ target := .collected w.heap.size, args := #[] }], W1, { target := .fn (.func gf) lb, args := #[.func (.yield (w.heap.size + 1)) #[] #[]] }, W1, gf,
    #[.func (.yield (w.heap.size + 1)) #[] #[]] ++ lb, W1, ?_, ?_, ?_, ?_, fun _ => h1, ?_⟩
  · rw [← hW1, hrec]; exact run_enterLoop_outer _ _ _ _ _
  · simp only [resolve, hg]
    simp [go_sem]
  · intro f' hf'; simp [Target.leads] at hf'; subst hf'; exact hFg
  · simp [invoke, go_sem, eg]
  · refine (hseq (w.heap.size + 1)
      (fun pre W => I pre W ∧ W.heap[w.heap.size + 1]? = some (.loop (rec .ready none)) ∧ W.heap[w.heap.size]? = some (.deferred (some [])))
      (fun pre W => ∃ c, Ix c pre W ∧ W.heap[w.heap.size + 1]? = some (.loop (rec .done (some c))) ∧ W.heap[w.heap.size]? = some (.deferred (some [])))
      W1 hKp1 ?_ ⟨hI1, hL1, hK1⟩).mono ?_
    · -- one round
      rintro pre x W ⟨hi, hl, hk⟩ hkp hlen hsp
      have hlt : w.heap.size + 1 < W.heap.size := (Array.getElem?_eq_some_iff.1 hl).1
      have hy := run_yield (P := P) (args := encs x) hl (by rw [hrec]; exact hps x)
      rw [hrec] at hy
      refine ⟨fn, _, assign, body, hy, roundIn_of_wpIn hfn (hassign _ x W _ ⟨_, run_beginRound hl (by rw [hrec]), ?_⟩)⟩
      have hl2 : (W.putObj (w.heap.size + 1) (.loop { rec .ready none with state := .busy })).heap[w.heap.size + 1]? = some (.loop { rec .ready none with state := .busy }) := World.putObj_heap_same hlt
      have hk2 : (W.putObj (w.heap.size + 1) (.loop { rec .ready none with state := .busy })).heap[w.heap.size]? = some (.deferred (some [])) := (World.putObj_heap_other (by omega)).trans hk
      refine wpIn_mono (hbody _ pre x _ (hI _ _ _ _ hi hl) (hKp _ _ _ hkp hl) ⟨_, hl2⟩ hk2 hlen hsp) ?_
      have fin : ∀ (jump : Option Code) (W3 : World), Two w.heap.size (W.putObj (w.heap.size + 1) (.loop { rec .ready none with state := .busy })) W3 →
          (Instr.endRound (w.heap.size + 1) jump).run P W3 = .ok (.bool jump.isNone) (W3.putObj (w.heap.size + 1) (.loop (rec (if jump.isNone then .ready else .done) jump))) ∧
          (W3.putObj (w.heap.size + 1) (.loop (rec (if jump.isNone then .ready else .done) jump))).heap[w.heap.size + 1]? = some (.loop (rec (if jump.isNone then .ready else .done) jump)) ∧
          (W3.putObj (w.heap.size + 1) (.loop (rec (if jump.isNone then .ready else .done) jump))).heap[w.heap.size]? = some (.deferred (some [])) ∧
          W3.heap[w.heap.size + 1]? = some (.loop { rec .ready none with state := .busy }) := fun jump W3 ht => by
        have hl3 := ht.2.trans hl2
        have hk3 := ht.1.trans hk2
        have hr := run_endRound (P := P) jump hl3
        rw [hrec] at hr ⊢
        rw [hrec] at hl3
        exact ⟨hr, World.putObj_heap_same (Array.getElem?_eq_some_iff.1 hl3).1, (World.putObj_heap_other (by omega)).trans hk3, hl3⟩
      rintro e a3 W3 hp
      cases e with
      | normal =>
        obtain ⟨ht, hkp3, hi3⟩ := hp
        obtain ⟨hr, hl4, hk4, hl3⟩ := fin none W3 ht
        exact ⟨_, _, hr, hKp _ _ _ hkp3 hl3, .inl ⟨rfl, hI _ _ _ _ hi3 hl3, hl4, hk4⟩⟩
      | ret =>
        obtain ⟨ht, hkp3, hi3⟩ := hp
        obtain ⟨hr, hl4, hk4, hl3⟩ := fin (some .ret) W3 ht
        exact ⟨_, _, hr, hKp _ _ _ hkp3 hl3, .inr ⟨rfl, .ret, hIx _ _ _ _ _ hi3 hl3, hl4, hk4⟩⟩
      | exit id =>
        obtain ⟨ht, hkp3, hi3⟩ := hp
        obtain ⟨hr, hl4, hk4, hl3⟩ := fin (some (.exit id)) W3 ht
        exact ⟨_, _, hr, hKp _ _ _ hkp3 hl3, .inr ⟨rfl, .exit id, hIx _ _ _ _ _ hi3 hl3, hl4, hk4⟩⟩
      | goto t =>
        obtain ⟨ht, hkp3, hi3⟩ := hp
        obtain ⟨hr, hl4, hk4, hl3⟩ := fin (some (.goto t)) W3 ht
        exact ⟨_, _, hr, hKp _ _ _ hkp3 hl3, .inr ⟨rfl, .goto t, hIx _ _ _ _ _ hi3 hl3, hl4, hk4⟩⟩
      | panic ch => exact hp.elim
      | outgrown => exact hp.elim
    · -- behind the iterator
      rintro e W2 ⟨⟨v, rfl⟩, hkp, (⟨xs, hS, hi, hl, hk⟩ | ⟨pre, hSp, c, hi, hl, hk⟩)⟩
      · have hrun := run_endLoop (P := P) hl (by rw [hrec]; simp)
        have hi2 := hI _ _ _ (.loop { rec .ready none with state := .exhausted }) hi hl
        have hkp2 := hKp _ _ (.loop { rec .ready none with state := .exhausted }) hkp hl
        rw [hrec] at hrun hi2 hkp2
        exact ⟨none, _, hrun, hdone _ xs _ hS hi2 hkp2 rfl ((World.putObj_heap_other (by omega)).trans hk)⟩
      · have hrun := run_endLoop (P := P) hl (by rw [hrec]; simp)
        have hi2 := hIx _ _ _ _ (.loop { rec .done (some c) with state := .exhausted }) hi hl
        have hkp2 := hKp _ _ (.loop { rec .done (some c) with state := .exhausted }) hkp hl
        rw [hrec] at hrun hi2 hkp2
        exact ⟨some c, _, hrun, hstop _ c pre _ hSp hi2 hkp2 rfl ((World.putObj_heap_other (by omega)).trans hk)⟩
end Go.Proofs.YtmlpkimbcjkbkaaGreatDoor

namespace Go.Proofs.YtmlpkimbcjkbkaaGreatDoor
open Go.RowKit
attribute [local go_sem] Oper.semAt_some

open Classical in
/-- Those of a set that are below n, in order. -/
noncomputable def ups (Q : Nat → Prop) : Nat → List Nat
  | 0 => []
  | n + 1 => if Q n then ups Q n ++ [n] else ups Q n
theorem ups_mem {Q : Nat → Prop} {x : Nat} : ∀ n, x ∈ ups Q n ↔ x < n ∧ Q x
  | 0 => by simp [ups]
  | n + 1 => by
    unfold ups
    split
    · rename_i h
      rw [List.mem_append, ups_mem n, List.mem_singleton]
      constructor
      · rintro (h1 | rfl)
        · exact ⟨by omega, h1.2⟩
        · exact ⟨by omega, h⟩
      · rintro ⟨h1, h2⟩
        by_cases hx : x = n
        · exact .inr hx
        · exact .inl ⟨by omega, h2⟩
    · rename_i h
      rw [ups_mem n]
      constructor
      · rintro ⟨h1, h2⟩; exact ⟨by omega, h2⟩
      · rintro ⟨h1, h2⟩
        have : x ≠ n := fun e => h (e ▸ h2)
        exact ⟨by omega, h2⟩
theorem ups_len {Q : Nat → Prop} : ∀ n, (ups Q n).length ≤ n
  | 0 => by simp [ups]
  | n + 1 => by
    have := ups_len (Q := Q) n
    unfold ups
    split
    · simp; omega
    · omega
theorem ups_on {Q : Nat → Prop} {n : Nat} (h : Q n) : ups Q (n + 1) = ups Q n ++ [n] := by
  rw [ups, if_pos h]
theorem ups_off {Q : Nat → Prop} {n : Nat} (h : ¬ Q n) : ups Q (n + 1) = ups Q n := by
  rw [ups, if_neg h]
theorem ups_gap {Q : Nat → Prop} {c : Nat} : ∀ d, (∀ b, b < d → ¬ Q (c + b)) → ups Q (c + d) = ups Q c
  | 0, _ => rfl
  | d + 1, h => by
    rw [show c + (d + 1) = c + d + 1 from rfl, ups_off (h d (by omega))]
    exact ups_gap d (fun b hb => h b (by omega))
theorem ups_pre {Q : Nat → Prop} {n : Nat} : ∀ d, ups Q n <+: ups Q (n + d)
  | 0 => List.prefix_refl _
  | d + 1 => by
    have h := ups_pre (Q := Q) (n := n) d
    rw [show n + (d + 1) = n + d + 1 from rfl]
    by_cases hq : Q (n + d)
    · rw [ups_on hq]
      exact h.trans (List.prefix_append _ _)
    · rw [ups_off hq]; exact h
theorem ups_pref {Q : Nat → Prop} {n m : Nat} (h : n ≤ m) : ups Q n <+: ups Q m := by
  have := ups_pre (Q := Q) (n := n) (m - n)
  rwa [show n + (m - n) = m by omega] at this
/-- A row of words: the set Q. -/
def Rw (W : World) (g o m : Nat) (Q : Nat → Prop) : Prop := ∃ (R i : Nat) (P : Nat → Nat → Prop), i < R ∧ (0 < m → o = i * m) ∧ Tb W g R m P ∧ ∀ x, x < 64 * m → (P i x ↔ Q x)
theorem Rw.kept {W W' : World} {g o m : Nat} {Q : Nat → Prop} (h : Rw W g o m Q) (hk : W'.heap[g]? = W.heap[g]?) : Rw W' g o m Q := by
  obtain ⟨R, i, P, h1, h2, h3, h4⟩ := h
  exact ⟨R, i, P, h1, h2, h3.kept hk, h4⟩
theorem Rw.lt {W : World} {g o m : Nat} {Q : Nat → Prop} (h : Rw W g o m Q) : g < W.heap.size := by
  obtain ⟨R, i, P, h1, h2, h3, h4⟩ := h
  exact h3.lt
theorem Rw.cell {W : World} {g o m k : Nat} {Q : Nat → Prop} (h : Rw W g o m Q) (hk : k < m) : W.cell? ⟨g, o + k, none⟩ = some (.int .u64 ((wd Q k : Nat) : Int)) := by
  obtain ⟨R, i, P, h1, h2, h3, h4⟩ := h
  rw [h2 (by omega), h3.cell h1 hk, wd_congr fun b hb => h4 _ (by omega)]
theorem Tb.rw {W : World} {g R m i o : Nat} {P : Nat → Nat → Prop} (h : Tb W g R m P) (hi : i < R) (ho : 0 < m → o = i * m) : Rw W g o m (P i) := ⟨R, i, P, hi, ho, h, fun _ _ => Iff.rfl⟩
/-- What the iterator reads. -/
def KpL (bs g m o c : Nat) (Q : Nat → Prop) (W : World) : Prop := W.heap[bs]? = some (.cells #[.slice (some ⟨g, o, none⟩) m c] 95 (0, 0)) ∧ Rw W g o m Q ∧ Dz W
theorem KpL.kept {bs g m o c : Nat} {Q : Nat → Prop} {W W' : World} (h : KpL bs g m o c Q W) (hk : ∀ k, (k = bs ∨ k = g ∨ k = (0 : Nat)) → k < W.heap.size → W'.heap[k]? = W.heap[k]?) : KpL bs g m o c Q W' :=
  ⟨(hk bs (.inl rfl) (Array.getElem?_eq_some_iff.1 h.1).1).trans h.1, h.2.1.kept (hk g (.inr (.inl rfl)) h.2.1.lt), h.2.2.kept (hk _ (.inr (.inr rfl)) h.2.2.lt)⟩
theorem KpL.next {bs g m o c : Nat} {Q : Nat → Prop} {W W' : World} (h : KpL bs g m o c Q W) (hb : Below W.heap.size W W') : KpL bs g m o c Q W' := h.kept fun k _ hl => hb.block k hl
theorem KpL.put {bs g m o c : Nat} {Q : Nat → Prop} {W : World} {k : Nat} {r : Loop} (h : KpL bs g m o c Q W) (hl : W.heap[k]? = some (.loop r)) (x : Obj) : KpL bs g m o c Q (W.putObj k x) := by
  refine h.kept fun j hj _ => World.putObj_heap_other fun e => ?_
  subst e
  rcases hj with rfl | rfl | rfl
  · have := h.1; rw [hl] at this; cases this
  · obtain ⟨R, i, P, h1, h2, h3, h4⟩ := h.2.1
    unfold Tb at h3; rw [hl] at h3; cases h3
  · have h0 := h.2.2 0 (by decide)
    simp [World.cell?, hl] at h0
theorem Tb.ne_dz {w : World} {g R m : Nat} {P : Nat → Nat → Prop} (h : Tb w g R m P) (hd : Dz w) : g ≠ (0 : Nat) := fun e => by
  subst e
  have h0 := hd 0 (by decide)
  rw [rg_cell h] at h0
  unfold tabA at h0
  obtain ⟨hlt, h1⟩ := Array.getElem?_eq_some_iff.1 h0
  simp only [Array.getElem_ofFn] at h1
  cases h1
theorem all_call (g o m c : Nat) (w : World) :
    Calls Tryz.prog 79 #[.slice (some ⟨g, o, none⟩) m c] w fun e w' => ∃ bs, e = .returned (.func (.func 97) #[] #[.pointer (some ⟨bs, 0, none⟩)]) ∧ w.heap.size ≤ bs ∧ w'.heap[bs]? = some (.cells #[.slice (some ⟨g, o, none⟩) m c] 95 (0, 0)) ∧ Below w.heap.size w w' := by
  go_enter Tryz.func79, Tryz.ntmps79
  go_wp2
  go_ret
  exact ⟨w.heap.size, rfl, Nat.le_refl _, mt_heap_new _ _, (Below.refl _ _).alloc (Nat.le_refl _) _⟩
def encL (x : Nat) : Array Value := #[.int .i64 (x : Int)]
set_option maxHeartbeats 200000 in
set_option maxRecDepth 100000 in
theorem all_seq {g m o c : Nat} {Q : Nat → Prop} (hm : m ≤ 10000000) (bs n : Nat) (_hn : 1 ≤ n) :
    SeqQ Fence.wide n Tryz.prog 97 #[.pointer (some ⟨bs, 0, none⟩)] encL (· = ups Q (64 * m)) (· <+: ups Q (64 * m)) (64 * m + 1) (KpL bs g m o c Q) := by
  intro l J Jx W hK hY h0
  have hbs : W.cell? ⟨bs, 0, none⟩ = some (.slice (some ⟨g, o, none⟩) m c) := by simp [World.cell?, hK.1]
  have HYm := Lib.hid hY
  have HK0 := Lib.hid hK
  have HJ0 := Lib.hid h0
  have hmi : (m : Int) ≤ 10000000 := by omega
  clear hY hK h0
  refine callsIn_of_wp Tryz.func97 rfl trivial ?_ rfl
  simp only [Tryz.ntmps97, List.size_toArray, List.length_cons, List.length_nil, Nat.reduceAdd, Nat.reduceSub, Array.replicate_succ, Array.replicate_zero, List.push_toArray, List.append_toArray, List.nil_append, List.cons_append]
  gi_wp2_with fail
  gi_loopw [7] (fun iv wr => ∃ k : Nat, k ≤ m ∧ iv = .int .i64 (k : Int) ∧ Hid (J (ups Q (64 * k)) wr) ∧ Hid (KpL bs g m o c Q wr))
    (fun iv _ => m - (intOf iv).toNat)
  case atStart => exact ⟨0, Nat.zero_le _, rfl, HJ0, HK0⟩
  case round =>
    obtain ⟨k, hk, rfl, HJ, HK⟩ := hrel
    clear HJ0 HK0
    by_cases hkm : k < m
    · have hki : ((k : Int) < (m : Int)) := by omega
      obtain ⟨d, hd⟩ : ∃ d, wd Q k = d := ⟨_, rfl⟩
      have hcl : wr.cell? ⟨g, o + k, none⟩ = some (.int .u64 (d : Int)) := by
        rw [← hd]
        exact HK.out.2.1.cell hkm
      have HD := Lib.hid (show d = wd (fun x => Q x ∧ 64 * k ≤ x) k by rw [← hd]; exact wd_congr fun b _ => ⟨fun h => ⟨h, by omega⟩, fun h => h.1⟩)
      clear hd
      obtain ⟨W5, hW5⟩ : ∃ x, x = wr := ⟨_, rfl⟩
      subst hW5
      gi_wp2_with fail
      gi_loopw [4] (fun wv wr => ∃ d c' : Nat, wv = .int .u64 (d : Int) ∧ 64 * k ≤ c' ∧ c' ≤ 64 * (k + 1) ∧ Hid (d = wd (fun x => Q x ∧ c' ≤ x) k) ∧ Hid (J (ups Q c') wr) ∧ Hid (KpL bs g m o c Q wr))
        (fun wv _ => (intOf wv).toNat)
      case atStart => exact ⟨d, 64 * k, rfl, Nat.le_refl _, by omega, HD, HJ, HK⟩
      case round =>
        clear HD HJ HK hcl
        obtain ⟨d, c', rfl, hc1, hc2, HD, HJ, HK⟩ := hrel
        by_cases hd : d = 0
        · subst hd
          have HJ2 : Hid (J (ups Q (64 * (k + 1))) wr) := Lib.hid (by
            have h := (wd_zero _ _).1 HD.out.symm
            have := ups_gap (Q := Q) (c := c') (64 * (k + 1) - c') (fun b hb hp => by
              refine h (c' + b - 64 * k) (by omega) ?_
              rw [show 64 * k + (c' + b - 64 * k) = c' + b by omega]
              exact ⟨hp, by omega⟩)
            rw [show c' + (64 * (k + 1) - c') = 64 * (k + 1) by omega] at this
            rw [this]; exact HJ.out)
          clear HD HJ
          gi_wp2_with fail
          (repeat apply Exists.intro)
          refine ⟨⟨k + 1, by omega, by simp, HJ2, HK⟩, ?_⟩
          simp [intOf]; omega
        · have hdl : d < 18446744073709551616 := by rw [HD.out]; exact wd_lt _ _
          have hdb : ((d : Int) != 0) = true := by simp; omega
          have CT := Lib.hid (mtz_any d hdl hd wr HK.out.2.2)
          obtain ⟨t, ht⟩ : ∃ t, Lib.ctz 64 d = t := ⟨_, rfl⟩
          obtain ⟨hon, hlow⟩ := low_on d hdl hd
          have hlt := low_test d hdl hd
          have ht64 : t < 64 := by have := (ctz_spec d hdl hd).choose_spec.2; omega
          rw [ht] at CT hon hlow hlt
          clear ht
          have hP : Q (64 * k + t) ∧ c' ≤ 64 * k + t := by
            rw [HD.out, wd_iff _ _ ht64] at hon
            exact hon
          have hgap : ups Q (64 * k + t) = ups Q c' := by
            have := ups_gap (Q := Q) (c := c') (64 * k + t - c') (fun b hb hp => by
              have hz := hlow (c' + b - 64 * k) (by omega)
              have : d.testBit (c' + b - 64 * k) = true := by
                rw [HD.out, wd_iff _ _ (by omega), show 64 * k + (c' + b - 64 * k) = c' + b by omega]
                exact ⟨hp, by omega⟩
              rw [this] at hz; cases hz)
            rwa [show c' + (64 * k + t - c') = 64 * k + t by omega] at this
          have hon2 : ups Q (64 * k + t + 1) = ups Q c' ++ [64 * k + t] := by rw [ups_on hP.1, hgap]
          have HSP : Hid (ups Q c' ++ [64 * k + t] <+: ups Q (64 * m)) := Lib.hid (by rw [← hon2]; exact ups_pref (by omega))
          have hpl : (ups Q c').length < 64 * m + 1 := by have := ups_len (Q := Q) c'; omega
          have hE := low_test d hdl hd
          have hand := bits_and_u64_nat d (d - 1) hdl (by omega)
          have hw : IntKind.u64.wrap ((d : Int) - 1) = ((d - 1 : Nat) : Int) := by rw [IntKind.wrap_u64]; omega
          obtain ⟨d', hd'⟩ : ∃ d', d &&& (d - 1) = d' := ⟨_, rfl⟩
          have HD' : Hid (d' = wd (fun x => Q x ∧ 64 * k + t + 1 ≤ x) k) := Lib.hid (by
            refine wd_ext (by rw [← hd']; exact Nat.and_lt_two_pow (n := 64) _ (by omega)) fun b hb => ?_
            rw [← hd', hlt, Bool.and_eq_true, HD.out, wd_iff _ _ hb]
            constructor
            · rintro ⟨⟨h1, h2⟩, h3⟩
              refine ⟨h1, ?_⟩
              have hbt : b ≠ t := by simpa using h3
              by_cases hlt : b < t
              · have := hlow b hlt
                rw [HD.out] at this
                have h4 := (wd_iff (fun x => Q x ∧ c' ≤ x) k hb).2 ⟨h1, h2⟩
                rw [this] at h4; cases h4
              · omega
            · rintro ⟨h1, h2⟩
              refine ⟨⟨h1, by omega⟩, ?_⟩
              have : b ≠ t := by omega
              simpa using this)
          have HLT : Hid (d' < d) := Lib.hid (by rw [← hd']; have := Nat.and_le_right (n := d) (m := d - 1); omega)
          rw [hd'] at hand
          obtain ⟨X, hX⟩ : ∃ X, 64 * k + t = X := ⟨_, rfl⟩
          have hXi : (k : Int) * 64 + (t : Int) = (X : Int) := by omega
          have HX1 := Lib.hid (show 64 * k ≤ X ∧ X + 1 ≤ 64 * (k + 1) by omega)
          rw [hX] at HSP HD' hon2
          obtain ⟨fn, tmps, assign, body, hy, hR⟩ := HYm.out (ups Q c') X wr HJ.out HK.out hpl HSP.out
          rw [show encL X = #[.int .i64 (X : Int)] from rfl] at hy
          have HR := Lib.hid hR
          have HON := Lib.hid hon2
          have hdb : ((d : Int) != 0) = true := by simp; omega
          have hkx : (k : Int) ≤ 10000000 := by omega
          have ht6 : (t : Int) ≤ 64 := by omega
          clear hd hdl hE hlt hlow hon hP hgap hpl hd' HD hX hR hon2
          gi_wp2_with fail
          refine ⟨trivial, (callsIn_wide.2 CT.out).mono ?_⟩
          rintro e w3 ⟨rfl, rfl⟩
          gi_wp2_with fail
          refine HR.out.mono ?_
          rintro e1 W3 ⟨hk3, (⟨rfl, hJ3⟩ | ⟨rfl, hJ3⟩)⟩
          · have HK3 := Lib.hid hk3
            have HJ3 : Hid (J (ups Q (X + 1)) W3) := Lib.hid (by rw [HON.out]; exact hJ3)
            clear hk3 hJ3 hy
            gi_wp2_with fail
            refine ⟨⟨d', X + 1, rfl, by have := HX1.out; omega, HX1.out.2, HD', HJ3, HK3⟩, ?_⟩
            have := HLT.out
            simp [intOf]; omega
          · have HK3 := Lib.hid hk3
            clear hk3
            gi_wp2_with fail
            refine bodyPost_ret (results_none rfl _ _ _) rfl ?_
            exact ⟨⟨_, rfl⟩, HK3.out, .inr ⟨_, HSP.out, hJ3⟩⟩
    · have hki : ¬ ((k : Int) < (m : Int)) := by omega
      obtain rfl : k = m := by omega
      gi_wp2_with fail
      go_end0
      exact ⟨⟨_, rfl⟩, HK.out, .inl HJ.out⟩
end Go.Proofs.YtmlpkimbcjkbkaaGreatDoor
