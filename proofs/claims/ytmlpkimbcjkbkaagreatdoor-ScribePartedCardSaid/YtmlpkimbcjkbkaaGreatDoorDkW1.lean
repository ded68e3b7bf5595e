/-
  A DISK IN MEMORY (DV), and what each kind of write makes of it.
-/
import Derived.Test.YtmlpkimbcjkbkaaGreatDoorDkW0
namespace Go.Proofs.YtmlpkimbcjkbkaaGreatDoor
open Go.RowKit Go.Maps

structure FileAt (Fp : Nat → Prop) (w : World) (b : Nat) (f : Nm × Nm) (v : Value × Value) : Prop where
  blk : w.heap[b]? = some (.cells #[v.1, v.2] 111 (0, 0))
  s1 : Slot w v.1 f.1
  s2 : Slot w v.2 f.2
  fp : Fp b
  f1 : ∀ g, v.1.ownBlock = some g → Fp g
  f2 : ∀ g, v.2.ownBlock = some g → Fp g
  shr : ∀ g, v.1.ownBlock = some g → v.2.ownBlock = some g → f.2.length ≤ f.1.length ∨ capOf v.1 = f.1.length
def Own2 (v : Value × Value) (g : Nat) : Prop := v.1.ownBlock = some g ∨ v.2.ownBlock = some g
def Apart (v v' : Value × Value) : Prop := ∀ g, Own2 v g → ¬ Own2 v' g
theorem Apart.symm {v v' : Value × Value} (h : Apart v v') : Apart v' v := fun g h1 h2 => h g h2 h1

structure DV (Fp : Nat → Prop) (w : World) (Bd mn ms : Nat) (vs : Nat → Value × Value) (d : DS) (m : Nat) : Prop where
  blk : w.heap[Bd]? = some (.cells #[.map (some mn), .map (some ms), .int .i64 d.quota, .int .i64 d.left, .bool d.dead] 62 (0, 0))
  mapN : w.ownsMap Tryz.prog 9 ptrE mn m (dat d.now)
  mapS : w.ownsMap Tryz.prog 9 ptrE ms m (dat d.safe)
  fB : Fp Bd
  fN : Fp mn
  fS : Fp ms
  files : ∀ b, d.Has b → FileAt Fp w b (d.fs b) (vs b)
  apart : ∀ b b', d.Has b → d.Has b' → b ≠ b' → Apart (vs b) (vs b')
  srtN : Srt d.now
  srtS : Srt d.safe
  lens : ∀ b, d.Has b → (d.fs b).1.length ≤ 1048576 ∧ (d.fs b).2.length ≤ 1048576
  quo : 0 ≤ d.quota ∧ d.quota ≤ 9223372036854775807
  lft : -9223372036854775808 ≤ d.left ∧ d.left ≤ 9223372036854775807
  few : m ≤ 100000

theorem FileAt.lt {Fp : Nat → Prop} {w : World} {b : Nat} {f : Nm × Nm} {v : Value × Value} (h : FileAt Fp w b f v) : b < w.heap.size := (Array.getElem?_eq_some_iff.1 h.blk).1
theorem FileAt.kept {Fp : Nat → Prop} {w w' : World} {b : Nat} {f : Nm × Nm} {v : Value × Value} (h : FileAt Fp w b f v) (hb : w'.heap[b]? = w.heap[b]?) (hg : ∀ g, Own2 v g → w'.heap[g]? = w.heap[g]?) : FileAt Fp w' b f v :=
  ⟨hb.trans h.blk, h.s1.kept (fun g e => hg g (.inl e)), h.s2.kept (fun g e => hg g (.inr e)), h.fp, h.f1, h.f2, h.shr⟩
theorem FileAt.own {Fp : Nat → Prop} {w : World} {b : Nat} {f : Nm × Nm} {v : Value × Value} (h : FileAt Fp w b f v) {g : Nat} (hg : Own2 v g) : Fp g ∧ g < w.heap.size ∧ ∃ cur, Row w g cur := by
  rcases hg with hg | hg
  · exact ⟨h.f1 g hg, h.s1.lt hg⟩
  · exact ⟨h.f2 g hg, h.s2.lt hg⟩
theorem ownsMap_of_block {H : Type} {P : Program} {k : TypeId} {R : Value → Option (DataW H × List MemPlace)} {w w' : World} {b n : Nat} {D : DataW H} (h : w.ownsMap P k R b n D) (e : w'.heap[b]? = w.heap[b]?) : w'.ownsMap P k R b n D := by
  obtain ⟨es, clock, hb, F, hs, hD⟩ := h
  exact ⟨es, clock, e.trans hb, F, hs, hD⟩
theorem ownsMap_block {H : Type} {P : Program} {k : TypeId} {R : Value → Option (DataW H × List MemPlace)} {w : World} {b n : Nat} {D : DataW H} (h : w.ownsMap P k R b n D) : ∃ es clock, w.heap[b]? = some (.map es clock) := by
  obtain ⟨es, clock, hb, _⟩ := h
  exact ⟨es, clock, hb⟩
theorem ownsMap_tight {w : World} {b n : Nat} {l : Dir} (h : w.ownsMap Tryz.prog 9 ptrE b n (dat l)) {m : Nat} (hm : l.length ≤ m) : w.ownsMap Tryz.prog 9 ptrE b m (dat l) := by
  obtain ⟨es, clock, hb, F, hs, hD⟩ := h
  refine ⟨es, clock, hb, F, ?_, hD⟩
  have e := congrArg Maps.size hD
  rw [dat_size] at e
  simp only [Maps.size, length_sorted, List.length_map, Array.length_toList] at e
  omega
theorem ownsMap_len {w : World} {b n : Nat} {l : Dir} (h : w.ownsMap Tryz.prog 9 ptrE b n (dat l)) : l.length ≤ n := by
  have := h.size_le
  rwa [dat_size] at this

variable {Fp : Nat → Prop} {w w' : World} {Bd mn ms : Nat} {vs : Nat → Value × Value} {d : DS} {m : Nat}
theorem DV.lenN (h : DV Fp w Bd mn ms vs d m) : d.now.length ≤ m := ownsMap_len h.mapN
theorem DV.lenS (h : DV Fp w Bd mn ms vs d m) : d.safe.length ≤ m := ownsMap_len h.mapS
theorem DV.ltB (h : DV Fp w Bd mn ms vs d m) : Bd < w.heap.size := (Array.getElem?_eq_some_iff.1 h.blk).1
/-- Where no block of the disk's turns, the disk stands. -/
theorem DV.kept (h : DV Fp w Bd mn ms vs d m) (hk : ∀ j, j < w.heap.size → Fp j → w'.heap[j]? = w.heap[j]?) : DV Fp w' Bd mn ms vs d m :=
  { h with
    blk := (hk _ h.ltB h.fB).trans h.blk
    mapN := ownsMap_of_block h.mapN (hk _ h.mapN.lt h.fN)
    mapS := ownsMap_of_block h.mapS (hk _ h.mapS.lt h.fS)
    files := fun b hb => (h.files b hb).kept (hk _ (h.files b hb).lt (h.files b hb).fp) (fun g hg => hk g ((h.files b hb).own hg).2.1 ((h.files b hb).own hg).1) }
theorem DV.below (h : DV Fp w Bd mn ms vs d m) (hb : Below w.heap.size w w') : DV Fp w' Bd mn ms vs d m := h.kept (fun j hj _ => hb.block j hj)
theorem DV.alloc (h : DV Fp w Bd mn ms vs d m) (o : Obj) : DV Fp (w.alloc o) Bd mn ms vs d m := h.below ((Below.refl _ w).alloc (Nat.le_refl _) o)
theorem DV.wider (h : DV Fp w Bd mn ms vs d m) {Fq : Nat → Prop} (hq : ∀ j, j < w.heap.size → Fp j → Fq j) : DV Fq w Bd mn ms vs d m :=
  { h with
    fB := hq _ h.ltB h.fB
    fN := hq _ h.mapN.lt h.fN
    fS := hq _ h.mapS.lt h.fS
    files := fun b hb => { h.files b hb with fp := hq _ (h.files b hb).lt (h.files b hb).fp, f1 := fun g e => hq g ((h.files b hb).s1.lt e).1 ((h.files b hb).f1 g e), f2 := fun g e => hq g ((h.files b hb).s2.lt e).1 ((h.files b hb).f2 g e) } }
theorem DV.more (h : DV Fp w Bd mn ms vs d m) {k : Nat} (hk : m ≤ k) (hk2 : k ≤ 100000) : DV Fp w Bd mn ms vs d k :=
  { h with mapN := h.mapN.mono hk, mapS := h.mapS.mono hk, few := hk2 }
theorem DV.neN (h : DV Fp w Bd mn ms vs d m) : mn ≠ Bd := by
  intro e
  obtain ⟨es, c, hb⟩ := ownsMap_block h.mapN
  rw [e, h.blk] at hb
  simp at hb
theorem DV.neS (h : DV Fp w Bd mn ms vs d m) : ms ≠ Bd := by
  intro e
  obtain ⟨es, c, hb⟩ := ownsMap_block h.mapS
  rw [e, h.blk] at hb
  simp at hb
theorem cells_ne {b c : Nat} {x y : Array Value} {t u : TypeId} (hb : w.heap[b]? = some (.cells x t (0, 0))) (hc : w.heap[c]? = some (.cells y u (0, 0))) (h : t ≠ u) : b ≠ c := by
  intro e
  rw [e, hc] at hb
  simp at hb
  exact h hb.2.symm
theorem cells_ne_map {b c : Nat} {x : Array Value} {t : TypeId} {H : Type} {P : Program} {k : TypeId} {R : Value → Option (DataW H × List MemPlace)} {n : Nat} {D : DataW H} (hb : w.heap[b]? = some (.cells x t (0, 0))) (hc : w.ownsMap P k R c n D) : b ≠ c := by
  intro e
  obtain ⟨es, cl, hm⟩ := ownsMap_block hc
  rw [e, hm] at hb
  simp at hb

theorem row_ne {b c : Nat} {x y : Array Value} {u : TypeId} (hb : Row w b x) (hc : w.heap[c]? = some (.cells y u (0, 0))) (h : 5 ≠ u) : b ≠ c := by
  intro e
  obtain ⟨fz, _, hb⟩ := hb
  rw [e, hc] at hb
  simp at hb
  exact h hb.2.1.symm
theorem row_ne_map {b c : Nat} {x : Array Value} {H : Type} {P : Program} {k : TypeId} {R : Value → Option (DataW H × List MemPlace)} {n : Nat} {D : DataW H} (hb : Row w b x) (hc : w.ownsMap P k R c n D) : b ≠ c := by
  intro e
  obtain ⟨es, cl, hm⟩ := ownsMap_block hc
  obtain ⟨fz, _, hb⟩ := hb
  rw [e, hm] at hb
  simp at hb
/-- A word of the disk's own block is another one. -/
theorem DV.setB (h : DV Fp w Bd mn ms vs d m) (i : Nat) (v : Value) {q l : Int} {x : Bool} (hq : 0 ≤ q ∧ q ≤ 9223372036854775807) (hl : -9223372036854775808 ≤ l ∧ l ≤ 9223372036854775807)
    (e : (#[.map (some mn), .map (some ms), .int .i64 d.quota, .int .i64 d.left, .bool d.dead] : Array Value).setIfInBounds i v = #[.map (some mn), .map (some ms), .int .i64 q, .int .i64 l, .bool x]) :
    DV Fp (w.setCell ⟨Bd, i, none⟩ v) Bd mn ms vs { d with quota := q, left := l, dead := x } m := by
  have hk : ∀ j, j ≠ Bd → (w.setCell ⟨Bd, i, none⟩ v).heap[j]? = w.heap[j]? := fun j hj => Below.heap_setCell w ⟨Bd, i, none⟩ v j hj
  have hf : ∀ b, d.Has b → FileAt Fp (w.setCell ⟨Bd, i, none⟩ v) b (d.fs b) (vs b) := by
    intro b hb
    refine (h.files b hb).kept (hk b (cells_ne (h.files b hb).blk h.blk (by decide))) ?_
    intro g hg
    obtain ⟨_, _, cur, hc⟩ := (h.files b hb).own hg
    exact hk g (row_ne hc h.blk (by decide))
  refine { blk := ?_, mapN := ownsMap_of_block h.mapN (hk _ h.neN), mapS := ownsMap_of_block h.mapS (hk _ h.neS), fB := h.fB, fN := h.fN, fS := h.fS, files := hf, apart := h.apart, srtN := h.srtN, srtS := h.srtS, lens := h.lens, quo := hq, lft := hl, few := h.few }
  rw [setCell_block h.blk, e]

def upd {α : Type} (f : Nat → α) (b : Nat) (x : α) : Nat → α := fun j => if j = b then x else f j
theorem upd_same {α : Type} (f : Nat → α) (b : Nat) (x : α) : upd f b x b = x := by simp [upd]
theorem upd_other {α : Type} (f : Nat → α) {b j : Nat} (x : α) (h : j ≠ b) : upd f b x j = f j := by simp [upd, h]

/-- A file has other slices: rows of others stand, its own block holds the new ones. -/
theorem DV.setF (h : DV Fp w Bd mn ms vs d m) {b : Nat} (hb : d.Has b) {N S : Nm} {v : Value × Value} (hN : N.length ≤ 1048576) (hS : S.length ≤ 1048576)
    (hF : FileAt Fp w' b (N, S) v) (hk : ∀ j, j < w.heap.size → j ≠ b → (∀ cur, Row w j cur → ¬ Own2 (vs b) j) → w'.heap[j]? = w.heap[j]?)
    (hv : ∀ g, Own2 v g → Own2 (vs b) g ∨ w.heap.size ≤ g) : DV Fp w' Bd mn ms (upd vs b v) { d with fs := upd d.fs b (N, S) } m := by
  have hbb := (h.files b hb).blk
  have hkm : ∀ {c n : Nat} {D : DataW Unit}, w.ownsMap Tryz.prog 9 ptrE c n D → w'.heap[c]? = w.heap[c]? := by
    intro c n D hc
    refine hk c hc.lt (fun e => cells_ne_map hbb hc e.symm) ?_
    intro cur he
    exact absurd rfl (row_ne_map he hc)
  have hkB : w'.heap[Bd]? = w.heap[Bd]? := by
    refine hk Bd h.ltB (fun e => cells_ne hbb h.blk (by decide) e.symm) ?_
    intro cur he
    exact absurd rfl (row_ne he h.blk (by decide))
  have hfs : ∀ c, d.Has c → c ≠ b → FileAt Fp w' c (d.fs c) (vs c) := by
    intro c hc hne
    refine (h.files c hc).kept ?_ ?_
    · refine hk c (h.files c hc).lt hne ?_
      intro cur he
      exact absurd rfl (row_ne he (h.files c hc).blk (by decide))
    · intro g hg
      obtain ⟨_, hlt, cur, he⟩ := (h.files c hc).own hg
      refine hk g hlt (row_ne he hbb (by decide)) ?_
      intro _ _ hbg
      exact h.apart c b hc hb hne g hg hbg
  have hold : ∀ c, d.Has c → ∀ g, Own2 (vs c) g → g < w.heap.size := fun c hc g hg => ((h.files c hc).own hg).2.1
  refine { blk := hkB.trans h.blk, mapN := ownsMap_of_block h.mapN (hkm h.mapN), mapS := ownsMap_of_block h.mapS (hkm h.mapS), fB := h.fB, fN := h.fN, fS := h.fS, files := ?_, apart := ?_, srtN := h.srtN, srtS := h.srtS, lens := ?_, quo := h.quo, lft := h.lft, few := h.few }
  · intro c hc
    by_cases e : c = b
    · subst e
      simp only [upd_same]
      exact hF
    · simp only [upd_other _ _ e]
      exact hfs c hc e
  · intro c c' hc hc' hne
    have key : ∀ x, d.Has x → x ≠ b → Apart v (vs x) := by
      intro x hx hxb g hg hgx
      rcases hv g hg with h1 | h1
      · exact h.apart b x hb hx (Ne.symm hxb) g h1 hgx
      · have := hold x hx g hgx
        omega
    by_cases e : c = b
    · subst e
      rw [upd_same, upd_other _ _ (Ne.symm hne)]
      exact key c' hc' (Ne.symm hne)
    · by_cases e' : c' = b
      · subst e'
        rw [upd_same, upd_other _ _ e]
        exact (key c hc e).symm
      · rw [upd_other _ _ e, upd_other _ _ e']
        exact h.apart c c' hc hc' hne
  · intro c hc
    by_cases e : c = b
    · subst e
      simp only [upd_same]
      exact ⟨hN, hS⟩
    · simp only [upd_other _ _ e]
      exact h.lens c hc

/-- The map of names has turned (a put, a delete): only its own block did. -/
theorem DV.turnN (h : DV Fp w Bd mn ms vs d m) (hne : mn ≠ ms) {l : Dir} {n : Nat} (hm : w'.ownsMap Tryz.prog 9 ptrE mn n (dat l)) (hg : w.grownBy w' (some mn)) (hs : Srt l) (hl : l.length ≤ m) (hhas : ∀ b, (∃ x, (x, b) ∈ l) → d.Has b) :
    DV Fp w' Bd mn ms vs { d with now := l } m := by
  have hk : ∀ j, j < w.heap.size → j ≠ mn → w'.heap[j]? = w.heap[j]? := fun j hj hne => hg.block j hj (fun e => hne (by simpa using e))
  have hh : ∀ b, DS.Has { d with now := l } b → d.Has b := by
    rintro b ⟨x, hx | hx⟩
    · exact hhas b ⟨x, hx⟩
    · exact ⟨x, .inr hx⟩
  refine { blk := (hk _ h.ltB (Ne.symm h.neN)).trans h.blk, mapN := ownsMap_tight hm hl, mapS := ownsMap_of_block h.mapS (hk _ h.mapS.lt (Ne.symm hne)), fB := h.fB, fN := h.fN, fS := h.fS, files := ?_, apart := fun b b' hb hb' => h.apart b b' (hh b hb) (hh b' hb'), srtN := hs, srtS := h.srtS, lens := fun b hb => h.lens b (hh b hb), quo := h.quo, lft := h.lft, few := h.few }
  intro b hb
  have hF := h.files b (hh b hb)
  refine hF.kept (hk _ hF.lt (cells_ne_map hF.blk h.mapN)) ?_
  intro g hgv
  obtain ⟨_, hlt, cur, hc⟩ := hF.own hgv
  exact hk g hlt (row_ne_map hc h.mapN)
theorem DV.turnS (h : DV Fp w Bd mn ms vs d m) (hne : mn ≠ ms) {l : Dir} {n : Nat} (hm : w'.ownsMap Tryz.prog 9 ptrE ms n (dat l)) (hg : w.grownBy w' (some ms)) (hs : Srt l) (hl : l.length ≤ m) (hhas : ∀ b, (∃ x, (x, b) ∈ l) → d.Has b) :
    DV Fp w' Bd mn ms vs { d with safe := l } m := by
  have hk : ∀ j, j < w.heap.size → j ≠ ms → w'.heap[j]? = w.heap[j]? := fun j hj hne => hg.block j hj (fun e => hne (by simpa using e))
  have hh : ∀ b, DS.Has { d with safe := l } b → d.Has b := by
    rintro b ⟨x, hx | hx⟩
    · exact ⟨x, .inl hx⟩
    · exact hhas b ⟨x, hx⟩
  refine { blk := (hk _ h.ltB (Ne.symm h.neS)).trans h.blk, mapN := ownsMap_of_block h.mapN (hk _ h.mapN.lt hne), mapS := ownsMap_tight hm hl, fB := h.fB, fN := h.fN, fS := h.fS, files := ?_, apart := fun b b' hb hb' => h.apart b b' (hh b hb) (hh b' hb'), srtN := h.srtN, srtS := hs, lens := fun b hb => h.lens b (hh b hb), quo := h.quo, lft := h.lft, few := h.few }
  intro b hb
  have hF := h.files b (hh b hb)
  refine hF.kept (hk _ hF.lt (cells_ne_map hF.blk h.mapS)) ?_
  intro g hgv
  obtain ⟨_, hlt, cur, hc⟩ := hF.own hgv
  exact hk g hlt (row_ne_map hc h.mapS)

/-- A file more: a new block, beside the files that are there (it has no name yet: 'pend'). -/
theorem DV.turnNew (h : DV Fp w Bd mn ms vs d m) (hne : mn ≠ ms) {b : Nat} (hnew : ¬ d.Has b) {N S : Nm} {v : Value × Value} (hN : N.length ≤ 1048576) (hS : S.length ≤ 1048576) (hF : FileAt Fp w b (N, S) v)
    (hv : ∀ c, d.Has c → Apart v (vs c)) {l : Dir} {n k : Nat} (hm : w'.ownsMap Tryz.prog 9 ptrE mn n (dat l)) (hg : w.grownBy w' (some mn)) (hs : Srt l) (hmk : m ≤ k) (hl : l.length ≤ k) (hk2 : k ≤ 100000) (hhas : ∀ c, (∃ x, (x, c) ∈ l) → d.Has c ∨ c = b) :
    DV Fp w' Bd mn ms (upd vs b v) { d with now := l, fs := upd d.fs b (N, S) } k := by
  have hk : ∀ j, j < w.heap.size → j ≠ mn → w'.heap[j]? = w.heap[j]? := fun j hj hne => hg.block j hj (fun e => hne (by simpa using e))
  have hh : ∀ c, DS.Has { d with now := l, fs := upd d.fs b (N, S) } c → d.Has c ∨ c = b := by
    rintro c ⟨x, hx | hx⟩
    · exact hhas c ⟨x, hx⟩
    · exact .inl ⟨x, .inr hx⟩
  have hkF : ∀ {c : Nat} {f : Nm × Nm} {u : Value × Value}, FileAt Fp w c f u → FileAt Fp w' c f u := by
    intro c f u hF
    refine hF.kept (hk _ hF.lt (cells_ne_map hF.blk h.mapN)) ?_
    intro g hgv
    obtain ⟨_, hlt, cur, hc⟩ := hF.own hgv
    exact hk g hlt (row_ne_map hc h.mapN)
  refine { blk := (hk _ h.ltB (Ne.symm h.neN)).trans h.blk, mapN := ownsMap_tight hm hl, mapS := (ownsMap_of_block h.mapS (hk _ h.mapS.lt (Ne.symm hne))).mono hmk, fB := h.fB, fN := h.fN, fS := h.fS, files := ?_, apart := ?_, srtN := hs, srtS := h.srtS, lens := ?_, quo := h.quo, lft := h.lft, few := hk2 }
  · intro c hc
    by_cases e : c = b
    · subst e
      simp only [upd_same]
      exact hkF hF
    · simp only [upd_other _ _ e]
      exact hkF (h.files c ((hh c hc).resolve_right e))
  · intro c c' hc hc' hcc
    by_cases e : c = b
    · subst e
      rw [upd_same, upd_other _ _ (Ne.symm hcc)]
      exact hv c' ((hh c' hc').resolve_right (Ne.symm hcc))
    · by_cases e' : c' = b
      · subst e'
        rw [upd_same, upd_other _ _ e]
        exact (hv c ((hh c hc).resolve_right e)).symm
      · rw [upd_other _ _ e, upd_other _ _ e']
        exact h.apart c c' ((hh c hc).resolve_right e) ((hh c' hc').resolve_right e') hcc
  · intro c hc
    by_cases e : c = b
    · subst e
      simp only [upd_same]
      exact ⟨hN, hS⟩
    · simp only [upd_other _ _ e]
      exact h.lens c ((hh c hc).resolve_right e)

/-- The safe names are a new map: a copy of what the names are, or the names as they were safe. -/
theorem DV.setS (h : DV Fp w Bd mn ms vs d m) {ms' : Nat} {l : Dir} (hm : w.ownsMap Tryz.prog 9 ptrE ms' m (dat l)) (hf : Fp ms') (hs : Srt l) (hhas : ∀ b, (∃ x, (x, b) ∈ l) → d.Has b) :
    DV Fp (w.setCell ⟨Bd, 1, none⟩ (.map (some ms'))) Bd mn ms' vs { d with safe := l } m := by
  have hk : ∀ j, j ≠ Bd → (w.setCell ⟨Bd, 1, none⟩ (.map (some ms'))).heap[j]? = w.heap[j]? := fun j hj => Below.heap_setCell w ⟨Bd, 1, none⟩ _ j hj
  have hh : ∀ b, DS.Has { d with safe := l } b → d.Has b := by
    rintro b ⟨x, hx | hx⟩
    · exact ⟨x, .inl hx⟩
    · exact hhas b ⟨x, hx⟩
  refine { blk := ?_, mapN := ownsMap_of_block h.mapN (hk _ h.neN), mapS := ownsMap_of_block hm (hk _ (cells_ne_map h.blk hm).symm), fB := h.fB, fN := h.fN, fS := hf, files := ?_, apart := fun b b' hb hb' => h.apart b b' (hh b hb) (hh b' hb'), srtN := h.srtN, srtS := hs, lens := fun b hb => h.lens b (hh b hb), quo := h.quo, lft := h.lft, few := h.few }
  · rw [setCell_block h.blk]; rfl
  · intro b hb
    have hF := h.files b (hh b hb)
    refine hF.kept (hk _ (cells_ne hF.blk h.blk (by decide))) ?_
    intro g hgv
    obtain ⟨_, _, cur, hc⟩ := hF.own hgv
    exact hk g (row_ne hc h.blk (by decide))
/-- The names are those that were safe (for the length of a crash both words lead to one map). -/
theorem DV.setN (h : DV Fp w Bd mn ms vs d m) : DV Fp (w.setCell ⟨Bd, 0, none⟩ (.map (some ms))) Bd ms ms vs { d with now := d.safe } m := by
  have hk : ∀ j, j ≠ Bd → (w.setCell ⟨Bd, 0, none⟩ (.map (some ms))).heap[j]? = w.heap[j]? := fun j hj => Below.heap_setCell w ⟨Bd, 0, none⟩ _ j hj
  have hh : ∀ b, DS.Has { d with now := d.safe } b → d.Has b := by
    rintro b ⟨x, hx | hx⟩
    · exact ⟨x, .inr hx⟩
    · exact ⟨x, .inr hx⟩
  refine { blk := ?_, mapN := ownsMap_of_block h.mapS (hk _ h.neS), mapS := ownsMap_of_block h.mapS (hk _ h.neS), fB := h.fB, fN := h.fS, fS := h.fS, files := ?_, apart := fun b b' hb hb' => h.apart b b' (hh b hb) (hh b' hb'), srtN := h.srtS, srtS := h.srtS, lens := fun b hb => h.lens b (hh b hb), quo := h.quo, lft := h.lft, few := h.few }
  · rw [setCell_block h.blk]; rfl
  · intro b hb
    have hF := h.files b (hh b hb)
    refine hF.kept (hk _ (cells_ne hF.blk h.blk (by decide))) ?_
    intro g hgv
    obtain ⟨_, _, cur, hc⟩ := hF.own hgv
    exact hk g (row_ne hc h.blk (by decide))
end Go.Proofs.YtmlpkimbcjkbkaaGreatDoor
