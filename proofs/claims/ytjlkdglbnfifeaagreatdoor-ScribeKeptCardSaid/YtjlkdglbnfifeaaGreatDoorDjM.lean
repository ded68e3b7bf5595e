/-
  MATHEMATICS of the journal on a disk that isn't armed: what Save and Load make of it.
-/
import Derived.Test.YtjlkdglbnfifeaaGreatDoorDkSm
namespace Go.Proofs.YtjlkdglbnfifeaaGreatDoor
open Go.RowKit Go.Maps

def nJ : Nm := [106, 111, 117, 114, 110, 97, 108]
def nT : Nm := [106, 111, 117, 114, 110, 97, 108, 46, 110, 101, 119]
theorem nJT : nJ < nT := by decide
theorem nJT' : ¬ nT < nJ := by decide
theorem nJneT : nJ ≠ nT := by decide
abbrev sJ : ByteArray := ⟨#[106, 111, 117, 114, 110, 97, 108]⟩
abbrev sT : ByteArray := ⟨#[106, 111, 117, 114, 110, 97, 108, 46, 110, 101, 119]⟩
theorem sJ_list : sJ.data.toList = nJ := rfl
theorem sT_list : sT.data.toList = nT := rfl
theorem ok_sJ : okN sJ = true := by decide
theorem ok_sT : okN sT = true := by decide

/-- A disk that keeps this text under the journal's name, or none, and nothing else. -/
structure JS (d : DS) (q : Int) (c : Option Nm) : Prop where
  dead : d.dead = false
  left : d.left < 0
  quota : d.quota = q
  now : match c with | none => d.now = [] | some F => ∃ b, d.now = [(nJ, b)] ∧ (d.fs b).1 = F
def lenC : Option Nm → Nat
  | none => 0
  | some F => F.length
theorem JS.sm {d : DS} {q : Int} {c : Option Nm} (h : JS d q c) : Sm d q (lenC c) 1 := by
  refine ⟨h.dead, h.left, h.quota, ?_, ?_, ?_⟩
  · cases c with
    | none => have := h.now; simp only [] at this; simp [usedD, this, lenC]
    | some F => obtain ⟨b, h1, h2⟩ := h.now; simp [usedD, h1, lenNow, h2, lenC]
  · cases c with
    | none => have := h.now; simp only [] at this; simp [this]
    | some F => obtain ⟨b, h1, h2⟩ := h.now; simp [h1]
  · cases c with
    | none => have := h.now; simp only [] at this; rw [this]; exact List.Pairwise.nil
    | some F => obtain ⟨b, h1, h2⟩ := h.now; rw [h1]; exact List.pairwise_singleton _ _
theorem JS.noT {d : DS} {q : Int} {c : Option Nm} (h : JS d q c) : getD d.now nT = none := by
  cases c with
  | none => have := h.now; simp only [] at this; rw [this]; rfl
  | some F => obtain ⟨b, h1, h2⟩ := h.now; rw [h1]; rfl
theorem live_find {d : DS} {n : Nm} (hd : d.dead = false) : findV d n = getD d.now n ∧ findE d n = (match getD d.now n with | none => 5 | some _ => 0) := by
  unfold findV findE
  rw [hd]
  exact ⟨rfl, rfl⟩
theorem JS.remT {d : DS} {q : Int} {c : Option Nm} (h : JS d q c) : remE d sT = 5 ∧ remD d sT = d := by
  obtain ⟨h1, h2⟩ := live_find (d := d) (n := nT) h.dead
  rw [h.noT] at h1 h2
  exact ⟨by unfold remE; rw [sT_list, h2]; rfl, by unfold remD; rw [sT_list, h1]⟩
/-- Behind the append of a frame to the file that comes: its name, beside the journal's. -/
structure JT (d : DS) (q : Int) (b : Nat) (F : Nm) (s : Nm) : Prop where
  dead : d.dead = false
  left : d.left < 0
  quota : d.quota = q
  now : d.now = [(nT, b)] ∨ ∃ b0, d.now = [(nJ, b0), (nT, b)]
  fs : d.fs b = (F, s)
theorem JS.app {d : DS} {q : Int} {c : Option Nm} (h : JS d q c) {t : ByteArray} {b : Nat} (hb : ¬ d.Has b) (ht : t.size ≤ 1048576) :
    ((t.size : Int) ≤ q - lenC c → appE d sT t = 0 ∧ JT (appD d sT t b) q b t.data.toList []) ∧ (¬ (t.size : Int) ≤ q - lenC c → appE d sT t = 7 ∧ appD d sT t b = d) := by
  obtain ⟨h1, h2⟩ := h.sm.app (s := sT) ok_sT h.noT hb ht (by omega)
  refine ⟨fun hf => ?_, h2⟩
  obtain ⟨e, S, _, _, hD⟩ := h1 hf
  refine ⟨e, ?_⟩
  rw [hD]
  refine ⟨h.dead, h.left, h.quota, ?_, by simp [newF, upd_same]⟩
  cases c with
  | none => have := h.now; simp only [] at this; left; show putD d.now nT b = _; rw [this]; rfl
  | some F =>
    obtain ⟨b0, k1, k2⟩ := h.now
    right
    refine ⟨b0, ?_⟩
    show putD d.now nT b = _
    rw [k1]
    simp [putD, delD, ins, nJT', nJneT]
theorem JT.find {d : DS} {q : Int} {b : Nat} {F s : Nm} (h : JT d q b F s) : getD d.now nT = some b := by
  rcases h.now with e | ⟨b0, e⟩
  · rw [e]; rfl
  · rw [e]; rfl
theorem JT.syn {d : DS} {q : Int} {b : Nat} {F s : Nm} (h : JT d q b F s) : synE d sT = 0 ∧ JT (synD d sT) q b F F := by
  obtain ⟨h1, h2⟩ := live_find (d := d) (n := nT) h.dead
  rw [h.find] at h1 h2
  have hl : ¬ d.left = 0 := by have := h.left; omega
  refine ⟨by unfold synE; rw [sT_list, h2]; simp [hl], ?_⟩
  have e : synD d sT = synF d b := by unfold synD; rw [sT_list, h1]; simp [hl, dec_neg h.left]
  rw [e]
  exact ⟨h.dead, h.left, h.quota, h.now, by simp [synF, upd_same, h.fs]⟩
theorem JT.ren {d : DS} {q : Int} {b : Nat} {F s : Nm} (h : JT d q b F s) : renE d sT sJ = 0 ∧ JS (renD d sT sJ) q (some F) := by
  obtain ⟨h1, h2⟩ := live_find (d := d) (n := nT) h.dead
  rw [h.find] at h1 h2
  have hl : ¬ d.left = 0 := by have := h.left; omega
  refine ⟨by unfold renE; rw [sT_list, h2, ok_sJ]; simp [hl], ?_⟩
  have e : renD d sT sJ = renF d nT nJ b := by unfold renD; rw [sT_list, h1, ok_sJ]; simp [hl, dec_neg h.left]; rfl
  rw [e]
  refine ⟨h.dead, h.left, h.quota, b, ?_, by simp [renF, h.fs]⟩
  rcases h.now with e | ⟨b0, e⟩
  · simp [renF, e, delD, putD, ins]
  · simp [renF, e, delD, putD, ins, nJneT]
theorem JS.sdir {d : DS} {q : Int} {c : Option Nm} (h : JS d q c) : sdE d = 0 ∧ JS (sdD d) q c := by
  have hl : ¬ d.left = 0 := by have := h.left; omega
  refine ⟨by unfold sdE; rw [h.dead]; simp [hl], ?_⟩
  have e : sdD d = sdirF d := by unfold sdD; rw [h.dead]; simp [hl, dec_neg h.left]
  rw [e]
  exact ⟨h.dead, h.left, h.quota, h.now⟩
theorem JS.quo {d : DS} {q : Int} {c : Option Nm} (h : JS d q c) (r : Int) (hr : 0 ≤ r) : JS (qDS d r) r c := ⟨h.dead, h.left, by show max r 0 = r; omega, h.now⟩
theorem js_new (q : Int) (hq : 0 ≤ q) : JS (newDS q) q none := ⟨rfl, by show (-1 : Int) < 0; omega, by show max q 0 = q; omega, rfl⟩
def errC : Option Nm → Int
  | none => 5
  | some _ => 0
theorem lenC_some (F : Nm) : lenC (some F) = F.length := rfl
theorem errC_some (F : Nm) : errC (some F) = 0 := rfl
theorem lenC_none : lenC none = 0 := rfl
theorem errC_none : errC none = 5 := rfl
theorem JS.size {d : DS} {q : Int} {c : Option Nm} (h : JS d q c) : sizeR d nJ = lenC c ∧ findE d nJ = errC c := by
  obtain ⟨h1, h2⟩ := live_find (d := d) (n := nJ) h.dead
  unfold sizeR
  rw [h1, h2]
  cases c with
  | none => have := h.now; simp only [] at this; rw [this]; exact ⟨rfl, rfl⟩
  | some F => obtain ⟨b, k1, k2⟩ := h.now; rw [k1]; simp [getD, lenC, k2, errC]
theorem JS.read {d : DS} {q : Int} {F : Nm} (h : JS d q (some F)) : readS d sJ 0 F.length = ⟨F.toArray⟩ ∧ readE d sJ 0 F.length = 0 := by
  obtain ⟨h1, h2⟩ := live_find (d := d) (n := nJ) h.dead
  obtain ⟨b, k1, k2⟩ := h.now
  have hg : getD d.now nJ = some b := by rw [k1]; rfl
  rw [hg] at h1 h2
  constructor
  · unfold readS
    rw [sJ_list, h1]
    simp only []
    rw [if_neg (by omega), k2]
    simp
  · unfold readE
    rw [sJ_list, h2]
    simp
end Go.Proofs.YtjlkdglbnfifeaaGreatDoor
