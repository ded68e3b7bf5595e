/-
  CONTRACT of layer 10's All and its iterator: all matches that don't overlap, one behind the other.
-/
import Derived.Test.YtmlpkimbcjkbkaaGreatDoorMtS4
import Derived.Test.YtmlpkimbcjkbkaaGreatDoorMtW2
namespace Go.Proofs.YtmlpkimbcjkbkaaGreatDoor
open Go.RowKit

/-- The leftmost match from a place on, and of these the longest one; or that there is none. -/
def FndIs (s : ByteArray) (t : RT) (a : Nat) : Option (Nat × Nat) → Prop
  | none => ∀ i, a ≤ i → ∀ j, ¬ Met s t i j
  | some (i, j) => a ≤ i ∧ Met s t i j ∧ (∀ j', Met s t i j' → j' ≤ j) ∧ ∀ i', a ≤ i' → i' < i → ∀ j', ¬ Met s t i' j'
def fndV : Option (Nat × Nat) → Value
  | none => .tuple #[.int .i64 0, .int .i64 0, .bool false]
  | some (i, j) => .tuple #[.int .i64 (i : Int), .int .i64 (j : Int), .bool true]
theorem Met.le2 {s : ByteArray} {t : RT} {i j : Nat} (h : Met s t i j) : i ≤ j ∧ j ≤ s.size := ⟨h.le, h.1⟩
/-- What find answers. -/
def FindPost (s : ByteArray) (t : RT) (a : Nat) (w : World) (e : Ending) (w' : World) : Prop := ∃ r, e = .returned (fndV r) ∧ FndIs s t a r ∧ Below w.heap.size w w'
set_option maxHeartbeats 4000000 in
set_option maxRecDepth 100000 in
theorem mfind_any (s : ByteArray) (hs : s.size ≤ 1000000) {w : World} {d : Pd} {t : RT} {fr g : Nat} (h : Sn w d t s fr g) (a : Nat) (hfa : fr ≤ a) (ha : a ≤ s.size + 1) :
    Calls Tryz.prog 17 #[seV d fr s.size g, .int .i64 (a : Int)] w (FindPost s t a w) := by
  have CB := Lib.hid fun (Z : World) (hZ : Below w.heap.size w Z) (i : Nat) (hi : fr ≤ i ∧ i ≤ s.size) => mbeg_any s hs (h.next hZ) i hi.1 hi.2
  have CE := Lib.hid fun (Z : World) (hZ : Below w.heap.size w Z) (i : Nat) (hi : fr ≤ i ∧ i ≤ s.size) => mend_any s hs (h.next hZ) i hi.1 hi.2
  unfold seV at CB CE ⊢
  generalize (s.size - fr + 1) * d.m = R at *
  obtain ⟨W1, hW1⟩ : ∃ W1, w.alloc (.cells #[.pointer (some ⟨d.p, 0, none⟩), .int .i64 (fr : Int), .int .i64 (s.size : Int), .int .i64 (d.m : Int), .slice (some ⟨g, 0, none⟩) R R] 54) = W1 := ⟨_, rfl⟩
  have hb1 : Below w.heap.size w W1 := by rw [← hW1]; exact (Below.refl _ _).alloc (Nat.le_refl _) _
  have hz1 : W1.heap.size = w.heap.size + 1 := by rw [← hW1]; simp
  have hx1 : W1.heap[w.heap.size]? = some (.cells #[.pointer (some ⟨d.p, 0, none⟩), .int .i64 (fr : Int), .int .i64 (s.size : Int), .int .i64 (d.m : Int), .slice (some ⟨g, 0, none⟩) R R] 54 (0, 0)) := by rw [← hW1]; exact mt_heap_new _ _
  have HSK := Lib.hid fun (Z : World) (hZ : Below W1.heap.size W1 Z) => se_cells (b := w.heap.size) ((hZ.block _ (by omega)).trans hx1)
  have HB1 := Lib.hid hb1
  have HW1 := Lib.hid hW1
  have hsi : (s.size : Int) ≤ 1000000 := by omega
  have hai : (a : Int) ≤ 1000001 := by omega
  clear h hx1 hb1 hW1
  go_enter Tryz.func17, Tryz.ntmps17
  go_upto_region 1 with fail
  rw [HW1.out]
  clear HW1
  go_wp2_with fail
  go_loopw [1] (fun iv wr => ∃ i : Nat, iv = .int .i64 (i : Int) ∧ a ≤ i ∧ i ≤ s.size + 1 ∧ Hid (Below W1.heap.size W1 wr ∧ ∀ i', a ≤ i' → i' < i → ∀ j, ¬ Met s t i' j)) (fun iv _ => s.size + 2 - (intOf iv).toNat)
  case atStart => exact ⟨a, rfl, Nat.le_refl _, ha, Lib.hid ⟨Below.refl _ _, fun i' h1 h2 => by omega⟩⟩
  case round =>
    obtain ⟨i, rfl, hai2, hiN, HI⟩ := hrel
    have hBw : Below w.heap.size w wr := HB1.out.trans (HI.out.1.mono (by omega))
    obtain ⟨s0, s1, s2, s3, s4⟩ := HSK.out wr HI.out.1
    by_cases hi : i ≤ s.size
    · have hii : (i : Int) ≤ (s.size : Int) := by omega
      have CBi := Lib.hid (CB.out wr hBw i ⟨by omega, hi⟩)
      clear hBw
      go_wp2_with fail
      refine CBi.out.mono ?_
      rintro e w2 ⟨b, rfl, hb, hb2⟩
      have HBB := Lib.hid hb
      have HI2 : Hid (Below W1.heap.size W1 w2 ∧ ∀ i', a ≤ i' → i' < i → ∀ j, ¬ Met s t i' j) := Lib.hid ⟨HI.out.1.trans (hb2.mono HI.out.1.size), HI.out.2⟩
      clear hb hb2 HI CBi s0 s1 s2 s3 s4
      obtain ⟨s0, s1, s2, s3, s4⟩ := HSK.out w2 HI2.out.1
      have hBw2 : Below w.heap.size w w2 := HB1.out.trans (HI2.out.1.mono (by omega))
      cases b with
      | true =>
        have CEi := Lib.hid (CE.out w2 hBw2 i ⟨by omega, hi⟩)
        have HBW2 := Lib.hid hBw2
        clear hBw2
        go_wp2_with fail
        refine CEi.out.mono ?_
        rintro e w3 ⟨n, rfl, h1, h2, h3, hb3⟩
        have HFIN : Hid (FindPost s t a w (.returned (fndV (some (i, n)))) w3) := Lib.hid ⟨some (i, n), rfl, ⟨hai2, by
          rcases h2 with h2 | h2
          · obtain ⟨j, hj⟩ := HBB.out.1 (by trivial)
            have := h1 j hj
            have := hj.le
            obtain rfl : j = n := by omega
            exact hj
          · exact h2, h1, HI2.out.2⟩, HBW2.out.trans (hb3.mono HBW2.out.size)⟩
        clear h1 h2 hb3 HBB HI2 CEi s0 s1 s2 s3 s4
        go_wp2_with fail
        refine bodyPost_ret (v := fndV (some (i, n))) ?_ rfl HFIN.out
        simp [results, Tryz.results17, go_sem, fndV]
      | false =>
        have HN : Hid (Below W1.heap.size W1 w2 ∧ ∀ i', a ≤ i' → i' < i + 1 → ∀ j, ¬ Met s t i' j) := Lib.hid ⟨HI2.out.1, fun i' h1 h2 j hj => by
          by_cases he : i' < i
          · exact HI2.out.2 i' h1 he j hj
          · obtain rfl : i' = i := by omega
            have := HBB.out.2 ⟨j, hj⟩
            cases this⟩
        clear HBB HI2 hBw2 s0 s1 s2 s3 s4
        go_wp2_with fail
        refine ⟨⟨i + 1, by simp, by omega, by omega, HN⟩, ?_⟩
        simp [intOf]; omega
    · have hii : ¬ (i : Int) ≤ (s.size : Int) := by omega
      have HFIN : Hid (FindPost s t a w (.returned (fndV none)) wr) := Lib.hid ⟨none, rfl, fun i' h1 j hj => by
        by_cases he : i' < i
        · exact HI.out.2 i' h1 he j hj
        · have := hj.le2; omega, hBw⟩
      clear HI hBw
      go_wp2_with fail
      refine bodyPost_ret (v := fndV none) ?_ rfl HFIN.out
      simp [results, Tryz.results17, go_sem, fndV]
/-- What Find answers from any number on. -/
def FdIs (s : ByteArray) (t : RT) (fr : Int) (r : Option (Nat × Nat)) : Prop := if 0 ≤ fr ∧ fr ≤ (s.size : Int) then FndIs s t fr.toNat r else r = none
def FdPost (s : ByteArray) (t : RT) (fr : Int) (w : World) (e : Ending) (w' : World) : Prop := ∃ r, e = .returned (fndV r) ∧ FdIs s t fr r ∧ Below w.heap.size w w'
set_option maxHeartbeats 4000000 in
theorem mFind_any (s : ByteArray) (hs : s.size ≤ 1000000) (fr : Int) (hfr : -9223372036854775808 ≤ fr ∧ fr ≤ 9223372036854775807) {w : World} {d : Pd} {t : RT} (h : Pg w d t) :
    Calls Tryz.prog 18 #[.pointer (some ⟨d.p, 0, none⟩), .string s, .int .i64 fr] w (FdPost s t fr w) := by
  by_cases h0 : fr < 0
  · have HF : Hid (FdPost s t fr w (.returned (fndV none)) w) := Lib.hid ⟨none, rfl, by unfold FdIs; rw [if_neg (by omega)], Below.refl _ _⟩
    clear h hfr
    go_enter Tryz.func18, Tryz.ntmps18
    go_wp2_with fail
    refine bodyPost_ret (v := fndV none) ?_ rfl HF.out
    simp [results, Tryz.results18, go_sem, fndV]
  · by_cases h1 : (s.size : Int) < fr
    · have HF : Hid (FdPost s t fr w (.returned (fndV none)) w) := Lib.hid ⟨none, rfl, by unfold FdIs; rw [if_neg (by omega)], Below.refl _ _⟩
      clear h hfr
      go_enter Tryz.func18, Tryz.ntmps18
      go_wp2_with fail
      refine bodyPost_ret (v := fndV none) ?_ rfl HF.out
      simp [results, Tryz.results18, go_sem, fndV]
    · obtain ⟨a, rfl⟩ : ∃ a : Nat, fr = (a : Int) := ⟨fr.toNat, by omega⟩
      have CS := Lib.hid (msee_any s hs a (by omega) h)
      have ha0 : ¬ (a : Int) < 0 := by omega
      have ha1 : ¬ (s.size : Int) < (a : Int) := by omega
      have hsi : (s.size : Int) ≤ 1000000 := by omega
      clear h hfr h0 h1
      go_enter Tryz.func18, Tryz.ntmps18
      go_wp2_with fail
      refine CS.out.mono ?_
      rintro e w2 ⟨g, rfl, hsn, hg, hb2⟩
      have CF := Lib.hid (mfind_any s hs hsn a (Nat.le_refl _) (by omega))
      have HB2 := Lib.hid hb2
      clear hsn hb2 CS
      unfold seV at CF ⊢
      go_wp2_with fail
      refine CF.out.mono ?_
      rintro e w3 ⟨r, rfl, hr, hb3⟩
      have HF : Hid (FdPost s t (a : Int) w (.returned (fndV r)) w3) := Lib.hid ⟨r, rfl, by unfold FdIs; rw [if_pos (by omega)]; simpa using hr, HB2.out.trans (hb3.mono HB2.out.size)⟩
      clear hr hb3 HB2 CF
      cases r with
      | none =>
        simp only [fndV] at HF ⊢
        go_wp2_with fail
        refine bodyPost_ret (v := fndV none) ?_ rfl HF.out
        simp [results, Tryz.results18, go_sem, fndV]
      | some q =>
        obtain ⟨i, j⟩ := q
        simp only [fndV] at HF ⊢
        go_wp2_with fail
        refine bodyPost_ret (v := fndV (some (i, j))) ?_ rfl HF.out
        simp [results, Tryz.results18, go_sem, fndV]
/-- Is a tree met anywhere? -/
def InIs (s : ByteArray) (t : RT) : Prop := ∃ i j, Met s t i j
def InPost (s : ByteArray) (t : RT) (w : World) (e : Ending) (w' : World) : Prop := ∃ b : Bool, e = .returned (.bool b) ∧ (b = true ↔ InIs s t) ∧ Below w.heap.size w w'
set_option maxHeartbeats 4000000 in
theorem mIn_any (s : ByteArray) (hs : s.size ≤ 1000000) {w : World} {d : Pd} {t : RT} (h : Pg w d t) :
    Calls Tryz.prog 8 #[.pointer (some ⟨d.p, 0, none⟩), .string s] w (InPost s t w) := by
  have CF := Lib.hid (mFind_any s hs 0 (by omega) h)
  clear h
  go_enter Tryz.func8, Tryz.ntmps8
  go_wp2_with fail
  refine CF.out.mono ?_
  rintro e w3 ⟨r, rfl, hr, hb3⟩
  unfold FdIs at hr
  rw [if_pos (by omega)] at hr
  cases r with
  | none =>
    have HF : Hid (InPost s t w (.returned (.bool false)) w3) := Lib.hid ⟨false, rfl, ⟨fun h => (by cases h), fun ⟨i, j, h⟩ => (hr i (by simp) j h).elim⟩, hb3⟩
    clear hr hb3 CF
    simp only [fndV]
    go_wp2_with fail
    refine bodyPost_ret (v := .bool false) ?_ rfl HF.out
    simp [results, Tryz.results8, go_sem]
  | some q =>
    obtain ⟨i, j⟩ := q
    have HF : Hid (InPost s t w (.returned (.bool true)) w3) := Lib.hid ⟨true, rfl, ⟨fun _ => ⟨i, j, hr.2.1⟩, fun _ => rfl⟩, hb3⟩
    clear hr hb3 CF
    simp only [fndV]
    go_wp2_with fail
    refine bodyPost_ret (v := .bool true) ?_ rfl HF.out
    simp [results, Tryz.results8, go_sem]
end Go.Proofs.YtmlpkimbcjkbkaaGreatDoor

namespace Go.Proofs.YtmlpkimbcjkbkaaGreatDoor
open Go.RowKit

/-- THE ITERATOR's CONTRACT: it hands over what it should, one behind the other; of itself it makes new memory alone. -/
def SeqR {α : Type} (F : Fence) (n : Nat) (P : Program) (g : Nat) (lb : Array Value) (encs : α → Array Value) (S Sp : List α → Prop) (N : Nat) (Kp : World → Prop) : Prop :=
  ∀ (l : Nat) (J Jx : List α → World → Prop) (W : World), Kp W →
    (∀ pre W W', J pre W → Below W.heap.size W W' → J pre W') →
    (∀ pre x W1, J pre W1 → Kp W1 → pre.length < N → Sp (pre ++ [x]) → YieldAt F (n - 1) P l (encs x) W1 fun e W' =>
      Kp W' ∧ ((e = .returned (.bool true) ∧ J (pre ++ [x]) W') ∨ (e = .returned (.bool false) ∧ Jx (pre ++ [x]) W'))) →
    J [] W →
    CallsIn F n P g (#[.func (.yield l) #[] #[]] ++ lb) W fun e W' => (∃ v, e = .returned v) ∧ Kp W' ∧ ((∃ xs, S xs ∧ J xs W') ∨ (∃ pre, Sp pre ∧ Jx pre W'))

theorem wpIn_rangeR {F : Fence} {n : Nat} {P : Program} {α : Type} {g : Operand} {ps : Array Tmp} {assign body : Code} {Q : Exit → Act → World → Prop} {a : Act} {w : World}
    (hro : F.round = none) (h1 : 1 ≤ n) {gf : Nat} {lb : Array Value} (hg : a.eval g = .func (.func gf) #[] lb) (hFg : F.fn gf) (eg : ∀ args w, (callFunc gf args).run P w = .ok (.enter gf args) w)
    {encs : α → Array Value} {S Sp : List α → Prop} {N : Nat} {Kp : World → Prop} (hseq : SeqR F (n - 1) P gf lb encs S Sp N Kp) (hps : ∀ x, (encs x).size = ps.size)
    (hKp : ∀ W r o, Kp W → W.heap[w.heap.size + 1]? = some (.loop r) → Kp (W.putObj (w.heap.size + 1) o))
    (I : List α → World → Prop) (Ix : Code → List α → World → Prop) (hIb : ∀ pre W W', I pre W → Below W.heap.size W W' → I pre W')
    (hI : ∀ pre W r o, I pre W → W.heap[w.heap.size + 1]? = some (.loop r) → I pre (W.putObj (w.heap.size + 1) o)) (hIx : ∀ c pre W r o, Ix c pre W → W.heap[w.heap.size + 1]? = some (.loop r) → Ix c pre (W.putObj (w.heap.size + 1) o))
    (hK0 : ∀ r, Kp ((w.alloc (.deferred (some []))).alloc (.loop r))) (h0 : ∀ r, I [] ((w.alloc (.deferred (some []))).alloc (.loop r))) (a₁ : α → Act)
    (hassign : ∀ (l : Nat) (x : α) (W : World) (K : Act → World → Prop), K (a₁ x) W →
      assign.wpIn (F.inRound l) (n - 1 - 1) P (Exit.then K (fun _ _ _ => False)) { tmps := (ps.zip (encs x)).foldl (fun t (p, v) => t.setIfInBounds p v) a.tmps, defers := [] } W)
    (hbody : ∀ (l : Nat) (pre : List α) (x : α) (W : World), I pre W → Kp W → (∃ r, W.heap[w.heap.size + 1]? = some (.loop r)) → W.heap[w.heap.size]? = some (.deferred (some [])) → pre.length < N → Sp (pre ++ [x]) →
      body.wpIn (F.inRound l) (n - 1 - 1) P (ownPostQ I Ix Kp w.heap.size (pre ++ [x]) W) (a₁ x) W)
    (hdone : ∀ (D : Nat) (xs : List α) (W : World), S xs → I xs W → Kp W → D = w.heap.size → W.heap[D]? = some (.deferred (some [])) →
      Q .normal { a with defers := { target := .collected D, args := #[] } :: a.defers } W)
    (hstop : ∀ (D : Nat) (c : Code) (pre : List α) (W : World), Sp pre → Ix c pre W → Kp W → D = w.heap.size → W.heap[D]? = some (.deferred (some [])) →
      c.wpIn F n P Q { a with defers := { target := .collected D, args := #[] } :: a.defers } W) :
    (Code.rangeFunc g ps assign body).wpIn F n P Q a w := by
  refine wpIn_rangeFunc ?_
  intro fn hfn
  rw [hro]
  obtain ⟨rec, hrec⟩ : ∃ rec : LoopState → Option Code → Loop, rec = fun st pe => { state := st, pending := pe, fn, tmps := a.tmps, params := ps, assign, body, defers := w.heap.size } := ⟨_, rfl⟩
  obtain ⟨W1, hW1⟩ : ∃ W1, (w.alloc (.deferred (some []))).alloc (.loop (rec .ready none)) = W1 := ⟨_, rfl⟩
  have hL1 : W1.heap[w.heap.size + 1]? = some (.loop (rec .ready none)) := by
    rw [← hW1]; have := World.alloc_heap_new (w.alloc (.deferred (some []))) (.loop (rec .ready none)); rwa [World.size_alloc] at this
  have hK1 : W1.heap[w.heap.size]? = some (.deferred (some [])) := by
    rw [← hW1]; exact (Below.heap_alloc _ _ _ (by simp)).trans (World.alloc_heap_new w _)
  have hI1 : I [] W1 := by rw [← hW1]; exact h0 _
  have hKp1 : Kp W1 := by rw [← hW1]; exact hK0 _
  refine ⟨w.heap.size + 1, [{ target := .collected w.heap.size, args := #[] }], W1, { target := .fn (.func gf) lb, args := #[.func (.yield (w.heap.size + 1)) #[] #[]] }, W1, gf,
    #[.func (.yield (w.heap.size + 1)) #[] #[]] ++ lb, W1, ?_, ?_, ?_, ?_, fun _ => h1, ?_⟩
  · rw [← hW1, hrec]; exact run_enterLoop_outer _ _ _ _ _
  · simp only [resolve, hg]
    simp [go_sem]
  · intro f' hf'; simp [Target.leads] at hf'; subst hf'; exact hFg
  · simp [invoke, go_sem, eg]
  · refine (hseq (w.heap.size + 1)
      (fun pre W => I pre W ∧ W.heap[w.heap.size + 1]? = some (.loop (rec .ready none)) ∧ W.heap[w.heap.size]? = some (.deferred (some [])))
      (fun pre W => ∃ c, Ix c pre W ∧ W.heap[w.heap.size + 1]? = some (.loop (rec .done (some c))) ∧ W.heap[w.heap.size]? = some (.deferred (some [])))
      W1 hKp1 (fun pre W W' h hb => ⟨hIb _ _ _ h.1 hb, (hb.block _ (Array.getElem?_eq_some_iff.1 h.2.1).1).trans h.2.1, (hb.block _ (Array.getElem?_eq_some_iff.1 h.2.2).1).trans h.2.2⟩) ?_ ⟨hI1, hL1, hK1⟩).mono ?_
    · -- one round
      rintro pre x W ⟨hi, hl, hk⟩ hkp hlen hsp
      have hlt : w.heap.size + 1 < W.heap.size := (Array.getElem?_eq_some_iff.1 hl).1
      have hy := run_yield (P := P) (args := encs x) hl (by rw [hrec]; exact hps x)
      rw [hrec] at hy
      refine ⟨fn, _, assign, body, hy, roundIn_of_wpIn hfn (hassign _ x W _ ⟨_, run_beginRound hl (by rw [hrec]), ?_⟩)⟩
      have hl2 : (W.putObj (w.heap.size + 1) (.loop { rec .ready none with state := .busy })).heap[w.heap.size + 1]? = some (.loop { rec .ready none with state := .busy }) := World.putObj_heap_same hlt
      have hk2 : (W.putObj (w.heap.size + 1) (.loop { rec .ready none with state := .busy })).heap[w.heap.size]? = some (.deferred (some [])) := (World.putObj_heap_other (by omega)).trans hk
      refine wpIn_mono (hbody _ pre x _ (hI _ _ _ _ hi hl) (hKp _ _ _ hkp hl) ⟨_, hl2⟩ hk2 hlen hsp) ?_
      have fin : ∀ (jump : Option Code) (W3 : World), Two w.heap.size (W.putObj (w.heap.size + 1) (.loop { rec .ready none with state := .busy })) W3 →
          (Instr.endRound (w.heap.size + 1) jump).run P W3 = .ok (.bool jump.isNone) (W3.putObj (w.heap.size + 1) (.loop (rec (if jump.isNone then .ready else .done) jump))) ∧
          (W3.putObj (w.heap.size + 1) (.loop (rec (if jump.isNone then .ready else .done) jump))).heap[w.heap.size + 1]? = some (.loop (rec (if jump.isNone then .ready else .done) jump)) ∧
          (W3.putObj (w.heap.size + 1) (.loop (rec (if jump.isNone then .ready else .done) jump))).heap[w.heap.size]? = some (.deferred (some [])) ∧
          W3.heap[w.heap.size + 1]? = some (.loop { rec .ready none with state := .busy }) := fun jump W3 ht => by
        have hl3 := ht.2.trans hl2
        have hk3 := ht.1.trans hk2
        have hr := run_endRound (P := P) jump hl3
        rw [hrec] at hr ⊢
        rw [hrec] at hl3
        exact ⟨hr, World.putObj_heap_same (Array.getElem?_eq_some_iff.1 hl3).1, (World.putObj_heap_other (by omega)).trans hk3, hl3⟩
      rintro e a3 W3 hp
      cases e with
      | normal =>
        obtain ⟨ht, hkp3, hi3⟩ := hp
        obtain ⟨hr, hl4, hk4, hl3⟩ := fin none W3 ht
        exact ⟨_, _, hr, hKp _ _ _ hkp3 hl3, .inl ⟨rfl, hI _ _ _ _ hi3 hl3, hl4, hk4⟩⟩
      | ret =>
        obtain ⟨ht, hkp3, hi3⟩ := hp
        obtain ⟨hr, hl4, hk4, hl3⟩ := fin (some .ret) W3 ht
        exact ⟨_, _, hr, hKp _ _ _ hkp3 hl3, .inr ⟨rfl, .ret, hIx _ _ _ _ _ hi3 hl3, hl4, hk4⟩⟩
      | exit id =>
        obtain ⟨ht, hkp3, hi3⟩ := hp
        obtain ⟨hr, hl4, hk4, hl3⟩ := fin (some (.exit id)) W3 ht
        exact ⟨_, _, hr, hKp _ _ _ hkp3 hl3, .inr ⟨rfl, .exit id, hIx _ _ _ _ _ hi3 hl3, hl4, hk4⟩⟩
      | goto t =>
        obtain ⟨ht, hkp3, hi3⟩ := hp
        obtain ⟨hr, hl4, hk4, hl3⟩ := fin (some (.goto t)) W3 ht
        exact ⟨_, _, hr, hKp _ _ _ hkp3 hl3, .inr ⟨rfl, .goto t, hIx _ _ _ _ _ hi3 hl3, hl4, hk4⟩⟩
      | panic ch => exact hp.elim
      | outgrown => exact hp.elim
    · -- behind the iterator
      rintro e W2 ⟨⟨v, rfl⟩, hkp, (⟨xs, hS, hi, hl, hk⟩ | ⟨pre, hSp, c, hi, hl, hk⟩)⟩
      · have hrun := run_endLoop (P := P) hl (by rw [hrec]; simp)
        have hi2 := hI _ _ _ (.loop { rec .ready none with state := .exhausted }) hi hl
        have hkp2 := hKp _ _ (.loop { rec .ready none with state := .exhausted }) hkp hl
        rw [hrec] at hrun hi2 hkp2
        exact ⟨none, _, hrun, hdone _ xs _ hS hi2 hkp2 rfl ((World.putObj_heap_other (by omega)).trans hk)⟩
      · have hrun := run_endLoop (P := P) hl (by rw [hrec]; simp)
        have hi2 := hIx _ _ _ _ (.loop { rec .done (some c) with state := .exhausted }) hi hl
        have hkp2 := hKp _ _ (.loop { rec .done (some c) with state := .exhausted }) hkp hl
        rw [hrec] at hrun hi2 hkp2
        exact ⟨some c, _, hrun, hstop _ c pre _ hSp hi2 hkp2 rfl ((World.putObj_heap_other (by omega)).trans hk)⟩
end Go.Proofs.YtmlpkimbcjkbkaaGreatDoor

namespace Go.Proofs.YtmlpkimbcjkbkaaGreatDoor
open Go.RowKit
attribute [local go_sem] Oper.semAt_some

/-- From the first place on: what has been handed over, where the search goes on, where the last one ended. -/
inductive Pth (s : ByteArray) (t : RT) : List (Nat × Nat) → Nat → Option Nat → Prop where
  | start : Pth s t [] 0 none
  | skip {pre : List (Nat × Nat)} {a i : Nat} (h : Pth s t pre a (some i)) (hf : FndIs s t a (some (i, i))) : Pth s t pre (i + 1) (some i)
  | take {pre : List (Nat × Nat)} {a i j : Nat} {told : Option Nat} (h : Pth s t pre a told) (hf : FndIs s t a (some (i, j))) (hn : ¬ (i = j ∧ told = some i)) : Pth s t (pre ++ [(i, j)]) (if i = j then j + 1 else j) (some j)
def lastOf (l : List (Nat × Nat)) : Nat := match l.getLast? with | none => 0 | some x => x.2
theorem lastOf_snoc (l : List (Nat × Nat)) (x : Nat × Nat) : lastOf (l ++ [x]) = x.2 := by unfold lastOf; simp
theorem FndIs.facts {s : ByteArray} {t : RT} {a i j : Nat} (h : FndIs s t a (some (i, j))) : a ≤ i ∧ i ≤ j ∧ j ≤ s.size := ⟨h.1, h.2.1.le, h.2.1.1⟩
theorem Pth.inv {s : ByteArray} {t : RT} {pre : List (Nat × Nat)} {a : Nat} {told : Option Nat} (h : Pth s t pre a told) :
    a ≤ s.size + 1 ∧ pre.length ≤ a ∧ ((told = none ∧ pre = [] ∧ a = 0) ∨ (pre ≠ [] ∧ told = some (lastOf pre) ∧ lastOf pre ≤ a)) := by
  induction h with
  | start => exact ⟨by omega, by simp, .inl ⟨rfl, rfl, rfl⟩⟩
  | @skip pre a i h hf ih =>
    have := hf.facts
    obtain ⟨h1, h2, h3⟩ := ih
    refine ⟨by omega, by omega, ?_⟩
    rcases h3 with ⟨h3, _⟩ | ⟨h3, h4, h5⟩
    · cases h3
    · have e := Option.some.inj h4
      exact .inr ⟨h3, by rw [e], by omega⟩
  | @take pre a i j told h hf hn ih =>
    have := hf.facts
    obtain ⟨h1, h2, h3⟩ := ih
    rw [lastOf_snoc]
    refine ⟨?_, ?_, .inr ⟨by simp, rfl, ?_⟩⟩
    · split <;> omega
    · rw [List.length_append, List.length_singleton]
      split <;> omega
    · show j ≤ _
      split <;> omega
/-- How a match stands behind those ahead of it. -/
def Good (s : ByteArray) (pre : List (Nat × Nat)) (x : Nat × Nat) : Prop := lastOf pre ≤ x.1 ∧ x.1 ≤ x.2 ∧ x.2 ≤ s.size ∧ (pre ≠ [] → ¬ (x.1 = x.2 ∧ x.1 = lastOf pre))
theorem Pth.good {s : ByteArray} {t : RT} {xs : List (Nat × Nat)} {a : Nat} {told : Option Nat} (h : Pth s t xs a told) : ∀ pre x, xs = pre ++ [x] → Good s pre x := by
  induction h with
  | start => intro pre x e; exact absurd e (by simp)
  | skip h hf ih => exact ih
  | @take pre a i j told h hf hn ih =>
    intro pre2 x e
    obtain ⟨rfl, e2⟩ := List.append_inj' e rfl
    obtain rfl : (i, j) = x := by simpa using e2
    have h1 := hf.facts
    obtain ⟨_, _, h3⟩ := h.inv
    rcases h3 with ⟨h3, h4, h5⟩ | ⟨h3, h4, h5⟩
    · subst h4
      exact ⟨by simp [lastOf], h1.2.1, h1.2.2, fun h => absurd rfl h⟩
    · refine ⟨by show lastOf pre ≤ i; omega, h1.2.1, h1.2.2, fun _ h6 => hn ⟨h6.1, ?_⟩⟩
      rw [h4, show i = lastOf pre from h6.2]
/-- All have been handed over. -/
def AllS (s : ByteArray) (t : RT) (xs : List (Nat × Nat)) : Prop := ∃ a told, Pth s t xs a told ∧ FndIs s t a none
def AllP (s : ByteArray) (t : RT) (xs : List (Nat × Nat)) : Prop := ∃ a told, Pth s t xs a told
theorem AllP.good {s : ByteArray} {t : RT} {pre : List (Nat × Nat)} {x : Nat × Nat} (h : AllP s t (pre ++ [x])) : Good s pre x := by
  obtain ⟨a, told, h⟩ := h
  exact h.good pre x rfl
theorem Pth.any {s : ByteArray} {t : RT} {xs : List (Nat × Nat)} {a : Nat} {told : Option Nat} (h : Pth s t xs a told) : xs ≠ [] → InIs s t := by
  induction h with
  | start => exact fun h => absurd rfl h
  | skip h hf ih => exact ih
  | take h hf hn ih => exact fun _ => ⟨_, _, hf.2.1⟩
theorem AllS.any {s : ByteArray} {t : RT} {xs : List (Nat × Nat)} (h : AllS s t xs) : xs ≠ [] ↔ InIs s t := by
  obtain ⟨a, told, h, hf⟩ := h
  refine ⟨h.any, fun ⟨i, j, hm⟩ e => ?_⟩
  obtain ⟨_, _, h3⟩ := h.inv
  rcases h3 with ⟨_, _, rfl⟩ | ⟨h3, _⟩
  · exact hf i (Nat.zero_le _) j hm
  · exact h3 e
/-- What the iterator reads. -/
def KpS (bs : Nat) (d : Pd) (t : RT) (s : ByteArray) (g : Nat) (W : World) : Prop :=
  W.heap[bs]? = some (.cells #[.pointer (some ⟨d.p, 0, none⟩), .int .i64 ((0 : Nat) : Int), .int .i64 (s.size : Int), .int .i64 (d.m : Int), .slice (some ⟨g, 0, none⟩) ((s.size - 0 + 1) * d.m) ((s.size - 0 + 1) * d.m)] 54 (0, 0)) ∧ Sn W d t s 0 g
theorem KpS.kept {bs : Nat} {d : Pd} {t : RT} {s : ByteArray} {g : Nat} {W W' : World} (h : KpS bs d t s g W) (hk : ∀ k, k = bs ∨ k = d.p ∨ k = d.t ∨ k = d.a ∨ k = d.h ∨ k = d.f ∨ k = d.l ∨ k = g ∨ k = (0 : Nat) → k < W.heap.size → W'.heap[k]? = W.heap[k]?) : KpS bs d t s g W' :=
  ⟨(hk bs (.inl rfl) (Array.getElem?_eq_some_iff.1 h.1).1).trans h.1, h.2.kept fun k hk2 => hk k (.inr hk2)⟩
theorem KpS.next {bs : Nat} {d : Pd} {t : RT} {s : ByteArray} {g : Nat} {W W' : World} (h : KpS bs d t s g W) (hb : Below W.heap.size W W') : KpS bs d t s g W' := h.kept fun k _ hl => hb.block k hl
theorem pg_loop {W : World} {d : Pd} {t : RT} (h : Pg W d t) {k : Nat} {r : Loop} (hl : W.heap[k]? = some (.loop r)) : k ≠ d.p ∧ k ≠ d.t ∧ k ≠ d.a ∧ k ≠ d.h ∧ k ≠ d.f ∧ k ≠ d.l ∧ k ≠ (0 : Nat) := by
  refine ⟨?_, ?_, ?_, ?_, ?_, ?_, ?_⟩ <;> rintro rfl
  · have := h.prog; rw [hl] at this; cases this
  · have := h.tk; unfold Tb at this; rw [hl] at this; cases this
  · have := h.ah; unfold Tb at this; rw [hl] at this; cases this
  · have := h.bh; unfold Tb at this; rw [hl] at this; cases this
  · have := h.f; unfold Tb at this; rw [hl] at this; cases this
  · have := h.l; unfold Tb at this; rw [hl] at this; cases this
  · have h0 := h.dz 0 (by decide)
    simp [World.cell?, hl] at h0
theorem KpS.put {bs : Nat} {d : Pd} {t : RT} {s : ByteArray} {g : Nat} {W : World} {k : Nat} {r : Loop} (h : KpS bs d t s g W) (hl : W.heap[k]? = some (.loop r)) (x : Obj) : KpS bs d t s g (W.putObj k x) := by
  refine h.kept fun j hj _ => World.putObj_heap_other fun e => ?_
  subst e
  have h2 := pg_loop h.2.pg hl
  rcases hj with rfl | hj
  · have := h.1; rw [hl] at this; cases this
  · rcases hj with hj | hj | hj | hj | hj | hj | hj | hj
    · exact h2.1 hj
    · exact h2.2.1 hj
    · exact h2.2.2.1 hj
    · exact h2.2.2.2.1 hj
    · exact h2.2.2.2.2.1 hj
    · exact h2.2.2.2.2.2.1 hj
    · subst hj
      have := h.2.rows; unfold Tb at this; rw [hl] at this; cases this
    · exact h2.2.2.2.2.2.2 hj
set_option maxHeartbeats 2000000 in
theorem mAll_call (s : ByteArray) (hs : s.size ≤ 1000000) {w : World} {d : Pd} {t : RT} (h : Pg w d t) :
    Calls Tryz.prog 7 #[.pointer (some ⟨d.p, 0, none⟩), .string s] w fun e w' => ∃ bs g, e = .returned (.func (.func 16) #[] #[.pointer (some ⟨bs, 0, none⟩)]) ∧ w.heap.size ≤ bs ∧ w.heap.size ≤ g ∧ KpS bs d t s g w' ∧ Below w.heap.size w w' := by
  have CS := Lib.hid (msee_any s hs 0 (Nat.zero_le _) h)
  clear h
  go_enter Tryz.func7, Tryz.ntmps7
  go_wp2_with fail
  refine CS.out.mono ?_
  rintro e w2 ⟨g, rfl, hsn, hg, hb2⟩
  have HB := Lib.hid hb2
  have HS := Lib.hid hsn
  clear hsn hb2 CS
  unfold seV
  go_wp2_with fail
  go_ret
  have hb3 : Below w2.heap.size w2 (w2.alloc (.cells #[.pointer (some ⟨d.p, 0, none⟩), .int .i64 ((0 : Nat) : Int), .int .i64 (s.size : Int), .int .i64 (d.m : Int), .slice (some ⟨g, 0, none⟩) ((s.size - 0 + 1) * d.m) ((s.size - 0 + 1) * d.m)] 54)) := (Below.refl _ _).alloc (Nat.le_refl _) _
  exact ⟨w2.heap.size, g, rfl, HB.out.size, hg, ⟨mt_heap_new _ _, HS.out.next hb3⟩, HB.out.trans (hb3.mono HB.out.size)⟩
def encP (x : Nat × Nat) : Array Value := #[.int .i64 (x.1 : Int), .int .i64 (x.2 : Int)]
def tdV : Option Nat → Value
  | none => .int .i64 (-1)
  | some b => .int .i64 (b : Int)
end Go.Proofs.YtmlpkimbcjkbkaaGreatDoor
