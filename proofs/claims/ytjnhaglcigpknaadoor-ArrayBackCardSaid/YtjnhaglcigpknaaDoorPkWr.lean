/-
  WHAT A WRITER IS IN MEMORY (one cell that holds a row of bytes of the call's own), and the contracts of the Writer's methods.
-/
import Derived.Test.YtjnhaglcigpknaaDoorPkRdText
import Derived.Maps.AppendAt
import Derived.RangeFuncBox
import Derived.Lib.OthersKept
import Derived.OwnWalk
import Derived.Lib.ItoaLen
import Derived.Lib.BufferRead
import Derived.Lib.AppendStr
namespace Go.Proofs.YtjnhaglcigpknaaDoor
open Go.RowKit

/-- The Writer in block b holds the bytes l, in a row of its own (the slice v) from block B on. -/
def WrV (w : World) (b B : Nat) (v : Value) (l : List UInt8) : Prop :=
  w.cell? ⟨b, 0, none⟩ = some v ∧ w.frozen? ⟨b, 0, none⟩ = false ∧ w.ownsRow B 5 1 v l.length (Lib.byteCells l) ∧ b < B ∧ B ≤ w.heap.size
def Wr (w : World) (b B : Nat) (l : List UInt8) : Prop := ∃ v, WrV w b B v l
/-- What a call of the Writer's leaves as it was. -/
structure WFr (b B : Nat) (w w' : World) : Prop where
  os : w'.os = w.os
  tape : w'.tape = w.tape
  output : w'.output = w.output
  size : w.heap.size ≤ w'.heap.size
  block : ∀ k, k < B → k ≠ b → w'.heap[k]? = w.heap[k]?
  others : Lib.OthersKept 5 (some b) w w'
theorem WFr.refl (b B : Nat) (w : World) : WFr b B w w := ⟨rfl, rfl, rfl, Nat.le_refl _, fun _ _ _ => rfl, Lib.OthersKept.refl _ _ _⟩
theorem WFr.trans {b B : Nat} {u v w : World} (h : WFr b B u v) (k : WFr b B v w) : WFr b B u w :=
  ⟨k.os.trans h.os, k.tape.trans h.tape, k.output.trans h.output, Nat.le_trans h.size k.size, fun i hi hne => (k.block i hi hne).trans (h.block i hi hne), h.others.trans k.others⟩
theorem WFr.below {b B : Nat} {u v : World} (h : WFr b B u v) (hb : b < B) : Below b u v := ⟨h.os, h.tape, h.output, h.size, fun k hk => h.block k (by omega) (by omega)⟩
theorem WFr.alloc {b B : Nat} {u w : World} (h : WFr b B u w) (hB : B ≤ w.heap.size) (o : Obj) : WFr b B u (w.alloc o) :=
  h.trans ⟨rfl, rfl, rfl, by simp, fun k hk _ => ((Below.refl B w).alloc hB o).block k hk, (Lib.OthersKept.refl _ _ _).alloc o⟩
theorem WFr.setB {b B : Nat} {u w : World} (h : WFr b B u w) (v : Value) : WFr b B u (w.setCell ⟨b, 0, none⟩ v) :=
  h.trans ⟨rfl, rfl, rfl, Nat.le_of_eq (World.size_setCell _ _ _).symm, fun k _ hne => Below.heap_setCell w _ v k hne, (Lib.OthersKept.refl _ _ _).setCell (b := b) ⟨b, 0, none⟩ rfl v⟩
theorem ownsRow_kind {w : World} {B : Nat} {e : TypeId} {v : Value} {n : Nat} {xs : List Value} (h : w.ownsRow B e 1 v n xs) : ∀ g, v.ownBlock = some g → B ≤ g ∧ ∃ c fz, w.heap[g]? = some (.cells c e fz) := by
  intro g hg
  rcases h.2 with ⟨rfl, _⟩ | ⟨g', cap, cur, rfl, hB, hgg, _⟩
  · simp [Value.ownBlock] at hg
  · simp [Value.ownBlock] at hg
    subst hg
    exact ⟨hB, cur, _, hgg⟩
theorem WFr.grown {b B : Nat} {u w w' : World} {v : Value} {n : Nat} {xs : List Value} (h : WFr b B u w) (hg : w.grownBy w' v.ownBlock) (ho : w.ownsRow B 5 1 v n xs) (hB : B ≤ w.heap.size) : WFr b B u w' := by
  have hb := (Below.refl B w).grown hg hB (fun k hk => (ownsRow_kind ho k hk).1)
  exact h.trans ⟨hb.os, hb.tape, hb.output, hb.size, fun k hk _ => hb.block k hk, (Lib.OthersKept.refl _ _ _).grown hg (fun g e => (ownsRow_kind ho g e).2)⟩
theorem Tryd.infoU8 : (Tryd.prog.info? 5).map (fun i => (i.zero, i.size, i.bytes)) = some (some (.int .u8 0), 1, 1) := by kernel_rfl

/-- Behind an append to the Writer's row (what is appended lay in a new block o): the Writer's cell holds what it held. -/
theorem Wr.after {w w1 : World} {b B n : Nat} {v : Value} {xs : List Value} {o : Obj} (hc : w.cell? ⟨b, 0, none⟩ = some v) (hf : w.frozen? ⟨b, 0, none⟩ = false) (hown : w.ownsRow B 5 1 v n xs) (hb : b < B) (hB : B ≤ w.heap.size)
    (hgrow : (w.alloc o).grownBy w1 v.ownBlock) : w1.cell? ⟨b, 0, none⟩ = some v ∧ w1.frozen? ⟨b, 0, none⟩ = false ∧ WFr b B w w1 := by
  have hbe := ((Below.refl B w).alloc hB o).grown hgrow (by simp; omega) (fun k hk => (ownsRow_kind hown k hk).1)
  exact ⟨(hbe.cell (p := ⟨b, 0, none⟩) hb).trans hc, (hbe.frozen (p := ⟨b, 0, none⟩) hb).trans hf, ((WFr.refl b B w).alloc hB o).grown hgrow (hown.alloc o) (by simp; omega)⟩
/-- .. and the row stored back. -/
theorem Wr.put {w w1 : World} {b B : Nat} {m : List UInt8} {v v' : Value} (hb : b < B) (hB : B ≤ w.heap.size) (hfr : WFr b B w w1) (hown : w1.ownsRow B 5 1 v' m.length (Lib.byteCells m)) (hc1 : w1.cell? ⟨b, 0, none⟩ = some v) (hf1 : w1.frozen? ⟨b, 0, none⟩ = false) :
    WrV (w1.setCell ⟨b, 0, none⟩ v') b B v' m ∧ WFr b B w (w1.setCell ⟨b, 0, none⟩ v') := by
  refine ⟨⟨World.cell?_setCell_same _ _ _ hc1, by simpa using hf1, ownsRow_setCell_below hown (by exact hb) _, hb, ?_⟩, hfr.setB _⟩
  rw [World.size_setCell]; exact Nat.le_trans hB hfr.size
theorem row_snoc {w : World} {B : Nat} {v : Value} {l : List UInt8} {c : UInt8} (h : w.ownsRow B 5 1 v (l.length + 1) (Lib.byteCells l ++ [Value.int IntKind.u8 c.toNat])) : w.ownsRow B 5 1 v (l ++ [c]).length (Lib.byteCells (l ++ [c])) := by
  rw [Lib.byteCells_append, List.length_append]; exact h

set_option maxHeartbeats 1000000 in
theorem wopen_any (b B : Nat) (l : List UInt8) (w : World) (h : Wr w b B l) (hl : l.length + 1 ≤ 140737488355328) :
    Calls Tryd.prog 17 #[.pointer (some ⟨b, 0, none⟩)] w fun e w' => e = .returned (.tuple #[]) ∧ Wr w' b B (l ++ [40]) ∧ WFr b B w w' := by
  obtain ⟨v, hc, hf, hown, hb, hB⟩ := h
  obtain ⟨i0, hi, hz0, hz1, hz2⟩ := info_parts Tryd.infoU8
  go_enter Tryd.func17, Tryd.ntmps17
  go_wp2_with (at_builtin; refine wpList_append_own _ rfl (.tmp 6) (.tmp 7) 25 rfl B 5 i0 (.int .u8 0) 1 1 Tryd.underlying25 hi hz0 hz1 hz2 rfl (by decide) v l.length (Lib.byteCells l) rfl (hown.alloc _) ⟨w.heap.size, 0, none⟩ 1 1 [.int .u8 40] rfl rfl ?c1 ?c2 ?c3 ?c4 ?c5 ?_)
  case c1 => exact cell_one_new _ _ _
  case c2 => simp [Value.oneCell']
  case c3 => unfold maxLen; omega
  case c4 => omega
  case c5 => simp; omega
  intro v' w1 hown1 hgrow _
  obtain ⟨q1, q2, q3⟩ := Wr.after hc hf hown hb hB hgrow
  obtain ⟨g', cap', rfl⟩ := ownsRow_succ hown1
  clear hc hf hown hgrow
  go_wp2_with fail
  go_end0
  obtain ⟨k1, k2⟩ := Wr.put hb hB q3 (row_snoc (c := 40) hown1) q1 q2
  exact ⟨rfl, ⟨_, k1⟩, k2⟩

set_option maxHeartbeats 1000000 in
theorem wclose_any (b B : Nat) (l : List UInt8) (w : World) (h : Wr w b B l) (hl : l.length + 1 ≤ 140737488355328) :
    Calls Tryd.prog 21 #[.pointer (some ⟨b, 0, none⟩)] w fun e w' => e = .returned (.tuple #[]) ∧ Wr w' b B (l ++ [41]) ∧ WFr b B w w' := by
  obtain ⟨v, hc, hf, hown, hb, hB⟩ := h
  obtain ⟨i0, hi, hz0, hz1, hz2⟩ := info_parts Tryd.infoU8
  go_enter Tryd.func21, Tryd.ntmps21
  go_wp2_with (at_builtin; refine wpList_append_own _ rfl (.tmp 6) (.tmp 7) 25 rfl B 5 i0 (.int .u8 0) 1 1 Tryd.underlying25 hi hz0 hz1 hz2 rfl (by decide) v l.length (Lib.byteCells l) rfl (hown.alloc _) ⟨w.heap.size, 0, none⟩ 1 1 [.int .u8 41] rfl rfl ?c1 ?c2 ?c3 ?c4 ?c5 ?_)
  case c1 => exact cell_one_new _ _ _
  case c2 => simp [Value.oneCell']
  case c3 => unfold maxLen; omega
  case c4 => omega
  case c5 => simp; omega
  intro v' w1 hown1 hgrow _
  obtain ⟨q1, q2, q3⟩ := Wr.after hc hf hown hb hB hgrow
  obtain ⟨g', cap', rfl⟩ := ownsRow_succ hown1
  clear hc hf hown hgrow
  go_wp2_with fail
  go_end0
  obtain ⟨k1, k2⟩ := Wr.put hb hB q3 (row_snoc (c := 41) hown1) q1 q2
  exact ⟨rfl, ⟨_, k1⟩, k2⟩


/-- What strconv.AppendInt leaves, the row stored back. -/
theorem Wr.afterInt {w w1 : World} {b B : Nat} {v : Value} (hc : w.cell? ⟨b, 0, none⟩ = some v) (hf : w.frozen? ⟨b, 0, none⟩ = false) (hb : b < B) (hbe : Below B w w1) (hok : Lib.OthersKept 5 none w w1) :
    w1.cell? ⟨b, 0, none⟩ = some v ∧ w1.frozen? ⟨b, 0, none⟩ = false ∧ WFr b B w w1 :=
  ⟨(hbe.cell (p := ⟨b, 0, none⟩) hb).trans hc, (hbe.frozen (p := ⟨b, 0, none⟩) hb).trans hf, hbe.os, hbe.tape, hbe.output, hbe.size, fun k hk _ => hbe.block k hk, fun k o h1 _ h3 => hok k o h1 (by simp) h3⟩
theorem row_snoc2 {w : World} {B k : Nat} {v : Value} {m : List UInt8} {c : UInt8} (hk : m.length = k) (h : w.ownsRow B 5 1 v (k + 1) (Lib.byteCells m ++ [Value.int IntKind.u8 c.toNat])) : w.ownsRow B 5 1 v (m ++ [c]).length (Lib.byteCells (m ++ [c])) := by
  subst hk; exact row_snoc h
theorem row_pos {w : World} {B n : Nat} {e : TypeId} {v : Value} {xs : List Value} (h : w.ownsRow B e 1 v n xs) (hn : 0 < n) : ∃ g cap, v = .slice (some ⟨g, 0, none⟩) n cap := by
  obtain ⟨k, rfl⟩ : ∃ k, n = k + 1 := ⟨n - 1, by omega⟩
  exact ownsRow_succ h
theorem row_app {w : World} {B : Nat} {v : Value} {l m : List UInt8} (h : w.ownsRow B 5 1 v (l.length + m.length) (Lib.byteCells l ++ Lib.byteCells m)) : w.ownsRow B 5 1 v (l ++ m).length (Lib.byteCells (l ++ m)) := by
  rw [Lib.byteCells_append, List.length_append]; exact h
theorem row_app2 {w : World} {B k : Nat} {v : Value} {l m : List UInt8} (hk : l.length = k) (h : w.ownsRow B 5 1 v (k + m.length) (Lib.byteCells l ++ Lib.byteCells m)) : w.ownsRow B 5 1 v (l ++ m).length (Lib.byteCells (l ++ m)) := by
  subst hk; exact row_app h
theorem tab_on {b B : Nat} {w w1 : World} (htab : Lib.TabBelow Tryd.prog b w "internal/strconv.uint64pow10" .u64 Lib.pow10Tab) (hfr : WFr b B w w1) (hb : b < B) : Lib.TabBelow Tryd.prog B w1 "internal/strconv.uint64pow10" .u64 Lib.pow10Tab :=
  fun w' h' => htab w' ((hfr.below hb).trans (h'.mono (Nat.le_of_lt hb)))
theorem itoa_len (n : Int) (h0 : -9223372036854775808 ≤ n) (h1 : n ≤ 9223372036854775807) : 0 < (Lib.itoa n).length ∧ (Lib.itoa n).length ≤ 21 := by
  have hd (u : Nat) (hu : u ≤ 9223372036854775808) : 0 < (Lib.decDigits u).length ∧ (Lib.decDigits u).length ≤ 20 := by
    rw [Lib.decDigits_length]
    exact ⟨Lib.nDigits_pos u, Lib.nDigits_le20 u (by omega)⟩
  unfold Lib.itoa
  by_cases h : n < 0
  · rw [if_pos h, List.length_cons]; have := hd n.natAbs (by omega); omega
  · rw [if_neg h]; have := hd n.toNat (by omega); omega

set_option maxHeartbeats 2000000 in
theorem wint_any (b B : Nat) (l : List UInt8) (n : Int) (w : World) (h : Wr w b B l) (hl : l.length + 100 ≤ 140737488355328) (h0 : -9223372036854775808 ≤ n) (h1 : n ≤ 9223372036854775807) (htab : Lib.TabBelow Tryd.prog b w "internal/strconv.uint64pow10" .u64 Lib.pow10Tab) :
    Calls Tryd.prog 36 #[.pointer (some ⟨b, 0, none⟩), .int .i64 n] w fun e w' => e = .returned (.tuple #[]) ∧ Wr w' b B (l ++ [105] ++ Lib.itoa n ++ [59]) ∧ WFr b B w w' := by
  obtain ⟨v, hc, hf, hown, hb, hB⟩ := h
  obtain ⟨i0, hi, hz0, hz1, hz2⟩ := info_parts Tryd.infoU8
  have hil := itoa_len n h0 h1
  go_enter Tryd.func36, Tryd.ntmps36
  go_wp2_with (at_builtin; refine wpList_append_own _ rfl (.tmp 8) (.tmp 9) 25 rfl B 5 i0 (.int .u8 0) 1 1 Tryd.underlying25 hi hz0 hz1 hz2 rfl (by decide) _ _ _ rfl (hown.alloc _) ⟨w.heap.size, 0, none⟩ 1 1 [.int .u8 105] rfl rfl ?c1a ?c2a ?c3a ?c4a ?c5a ?_)
  case c1a => exact cell_one_new _ _ _
  case c2a => simp [Value.oneCell']
  case c3a => unfold maxLen; simp at *; omega
  case c4a => simp at *; omega
  case c5a => simp; omega
  intro v' w1 hown1 hgrow _
  obtain ⟨q1, q2, q3⟩ := Wr.after hc hf hown hb hB hgrow
  obtain ⟨g', cap', rfl⟩ := ownsRow_succ hown1
  obtain ⟨hS, hF1⟩ := Wr.put hb hB q3 (row_snoc (c := 105) hown1) q1 q2
  clear hc hf hown hgrow hown1 q3 hB
  go_wp2_with fail
  obtain ⟨W, hW⟩ : ∃ W, W = w1.setCell ⟨b, 0, none⟩ (.slice (some ⟨g', 0, none⟩) (l.length + 1) cap') := ⟨_, rfl⟩
  rw [← hW] at hS hF1 ⊢
  clear hW q1 q2
  obtain ⟨hc, hf, hown, _, hB⟩ := hS
  refine (Tryd.strconv_AppendInt_10 B (l ++ [105]).length n h0 h1 _ (Lib.byteCells (l ++ [105])) _ hown hB (by simp; omega) (tab_on htab hF1 hb)).mono ?_
  rintro e w2 ⟨v2, rfl, hown2, hbe, hok⟩
  obtain ⟨q1, q2, q3⟩ := Wr.afterInt hc hf hb hbe hok
  have hs1 : (l ++ [105]).length = l.length + 1 := by simp
  rw [hs1] at hown2
  obtain ⟨g2, cap2, rfl⟩ := row_pos hown2 (by omega)
  obtain ⟨hS, hF2⟩ := Wr.put hb hB q3 (row_app2 hs1 hown2) q1 q2
  clear hc hf hown hown2 q3 hB hbe hok
  obtain ⟨hc, hf, hown, _, hB⟩ := hS
  have hm : (l ++ [105] ++ Lib.itoa n).length = l.length + 1 + (Lib.itoa n).length := by rw [List.length_append, hs1]
  obtain ⟨m, hmm⟩ : ∃ m, m = l ++ [105] ++ Lib.itoa n := ⟨_, rfl⟩
  rw [← hmm] at hown hm
  rw [hm] at hown
  have HMM := Lib.hid hmm
  have HC := Lib.hid hc
  have HF := Lib.hid hf
  have HM := Lib.hid hm
  have HB := Lib.hid hB
  clear hc hf hm hs1 hB hmm
  go_wp2_with (at_builtin; refine wpList_append_own _ rfl (.tmp 26) (.tmp 27) 25 rfl B 5 i0 (.int .u8 0) 1 1 Tryd.underlying25 hi hz0 hz1 hz2 rfl (by decide) _ _ _ rfl (hown.alloc _) ⟨w2.heap.size, 0, none⟩ 1 1 [.int .u8 59] rfl rfl ?c1b ?c2b ?c3b ?c4b ?c5b ?_)
  case c1b => have h := cell_one_new (w2.setCell ⟨b, 0, none⟩ (.slice (some ⟨g2, 0, none⟩) (l.length + 1 + (Lib.itoa n).length) cap2)) (.int .u8 59) 5; rwa [World.size_setCell] at h
  case c2b => simp [Value.oneCell']
  case c3b => unfold maxLen; omega
  case c4b => omega
  case c5b => have := HB.out; simp at this ⊢; omega
  intro v3 w3 hown3 hgrow _
  obtain ⟨r1, r2, r3⟩ := Wr.after HC.out HF.out hown hb HB.out hgrow
  obtain ⟨g3, cap3, rfl⟩ := ownsRow_succ hown3
  obtain ⟨k1, k2⟩ := Wr.put hb HB.out r3 (row_snoc2 (c := 59) HM.out hown3) r1 r2
  clear hown hgrow hown3 q1 q2 r3
  go_wp2_with fail
  go_end0
  rw [HMM.out] at k1
  exact ⟨rfl, ⟨_, k1⟩, (hF1.trans hF2).trans k2⟩

theorem row_str {w : World} {B k : Nat} {v : Value} {m : List UInt8} {t : ByteArray} (hk : m.length = k) (h : w.ownsRow B 5 1 v (k + t.size) (Lib.byteCells m ++ Lib.strCells t)) : w.ownsRow B 5 1 v (m ++ t.data.toList).length (Lib.byteCells (m ++ t.data.toList)) := by
  subst hk; rw [Lib.byteCells_append, List.length_append, Array.length_toList]; exact h

set_option maxHeartbeats 2000000 in
theorem wtext_any (b B : Nat) (l : List UInt8) (t : ByteArray) (w : World) (h : Wr w b B l) (hl : l.length + t.size + 100 ≤ 140737488355328) (htab : Lib.TabBelow Tryd.prog b w "internal/strconv.uint64pow10" .u64 Lib.pow10Tab) :
    Calls Tryd.prog 19 #[.pointer (some ⟨b, 0, none⟩), .string t] w fun e w' => e = .returned (.tuple #[]) ∧ Wr w' b B (l ++ Lib.itoa t.size ++ [58] ++ t.data.toList) ∧ WFr b B w w' := by
  obtain ⟨v, hc, hf, hown, hb, hB⟩ := h
  obtain ⟨i0, hi, hz0, hz1, hz2⟩ := info_parts Tryd.infoU8
  have hil := itoa_len (t.size : Int) (by omega) (by omega)
  go_enter Tryd.func19, Tryd.ntmps19
  go_wp2_with fail
  refine (Tryd.strconv_AppendInt_10 B l.length t.size (by omega) (by omega) _ (Lib.byteCells l) _ hown hB (by omega) (tab_on htab (WFr.refl _ _ _) hb)).mono ?_
  rintro e w2 ⟨v2, rfl, hown2, hbe, hok⟩
  obtain ⟨q1, q2, q3⟩ := Wr.afterInt hc hf hb hbe hok
  obtain ⟨g2, cap2, rfl⟩ := row_pos hown2 (by omega)
  obtain ⟨hS, hF2⟩ := Wr.put hb hB q3 (row_app hown2) q1 q2
  clear hc hf hown hown2 q3 hB hbe hok
  obtain ⟨hc, hf, hown, _, hB⟩ := hS
  obtain ⟨m, hmm⟩ : ∃ m, m = l ++ Lib.itoa t.size := ⟨_, rfl⟩
  have hm : m.length = l.length + (Lib.itoa t.size).length := by rw [hmm, List.length_append]
  rw [← hmm] at hown
  rw [hm] at hown
  have HMM := Lib.hid hmm
  have HC := Lib.hid hc
  have HF := Lib.hid hf
  have HM := Lib.hid hm
  have HB := Lib.hid hB
  clear hc hf hm hB hmm
  go_wp2_with (at_builtin; refine wpList_append_own _ rfl (.tmp 18) (.tmp 19) 25 rfl B 5 i0 (.int .u8 0) 1 1 Tryd.underlying25 hi hz0 hz1 hz2 rfl (by decide) _ _ _ rfl (hown.alloc _) ⟨w2.heap.size, 0, none⟩ 1 1 [.int .u8 58] rfl rfl ?c1b ?c2b ?c3b ?c4b ?c5b ?_)
  case c1b => have h := cell_one_new (w2.setCell ⟨b, 0, none⟩ (.slice (some ⟨g2, 0, none⟩) (l.length + (Lib.itoa t.size).length) cap2)) (.int .u8 58) 5; rwa [World.size_setCell] at h
  case c2b => simp [Value.oneCell']
  case c3b => unfold maxLen; omega
  case c4b => omega
  case c5b => have := HB.out; simp at this ⊢; omega
  intro v3 w3 hown3 hgrow _
  obtain ⟨r1, r2, r3⟩ := Wr.after HC.out HF.out hown hb HB.out hgrow
  obtain ⟨g3, cap3, rfl⟩ := ownsRow_succ hown3
  obtain ⟨hS, hF3⟩ := Wr.put hb HB.out r3 (row_snoc2 (c := 58) HM.out hown3) r1 r2
  clear hown hgrow hown3 q1 q2 r3
  obtain ⟨hc, hf, hown, _, hB⟩ := hS
  have hm2 : (m ++ [58]).length = l.length + (Lib.itoa t.size).length + 1 := by rw [List.length_append, HM.out]; rfl
  obtain ⟨m2, hmm2⟩ : ∃ m2, m2 = m ++ [58] := ⟨_, rfl⟩
  rw [← hmm2] at hown hm2
  rw [hm2] at hown
  have HMM2 := Lib.hid hmm2
  have HC2 := Lib.hid hc
  have HF2 := Lib.hid hf
  have HM2 := Lib.hid hm2
  have HB2 := Lib.hid hB
  clear hc hf hm2 hB hmm2 HC HF HB
  go_wp2_with (at_builtin; refine Lib.wpList_append_own_string _ rfl (.tmp 27) (.tmp 28) 25 9 rfl B 5 i0 Tryd.underlying25 Tryd.underlying9 hi hz0 hz1 hz2 _ _ _ rfl hown t rfl ?d1 ?d2 ?d3 ?_)
  case d1 => unfold maxLen; omega
  case d2 => omega
  case d3 => have := HB2.out; simp at this ⊢; omega
  intro v4 w4 hown4 hgrow4 _
  have hbe4 := (Below.refl B _).grown hgrow4 HB2.out (fun k hk => (ownsRow_kind hown k hk).1)
  have s1 := (hbe4.cell (p := ⟨b, 0, none⟩) hb).trans HC2.out
  have s2 := (hbe4.frozen (p := ⟨b, 0, none⟩) hb).trans HF2.out
  obtain ⟨g4, cap4, rfl⟩ := row_pos hown4 (by omega)
  obtain ⟨k1, k2⟩ := Wr.put hb HB2.out ((WFr.refl b B _).grown hgrow4 hown HB2.out) (row_str HM2.out hown4) s1 s2
  clear hown hgrow4 hown4 hbe4 r1 r2
  go_wp2_with fail
  go_end0
  rw [HMM2.out, HMM.out] at k1
  exact ⟨rfl, ⟨_, k1⟩, (hF2.trans hF3).trans k2⟩

set_option maxHeartbeats 1000000 in
theorem wbytes_any (b B : Nat) (l : List UInt8) (w : World) (h : Wr w b B l) :
    Calls Tryd.prog 7 #[.pointer (some ⟨b, 0, none⟩)] w fun e w' => e = .returned (.string ⟨l.toArray⟩) ∧ w = w' := by
  obtain ⟨v, hc, hf, hown, hb, hB⟩ := h
  have hcv : ∃ n cap a, v = .slice a n cap ∧ (convert 25 9 (.slice a n cap)).run Tryd.prog w = .ok (.string ⟨l.toArray⟩) w := by
    rcases hown.2 with ⟨rfl, h0⟩ | ⟨g, cap, cur, rfl, _, hg, _, _, _, htk⟩
    · obtain rfl : l = [] := List.eq_nil_of_length_eq_zero h0
      exact ⟨0, 0, none, rfl, Lib.run_convert_nil_bytes w _ _ 5 _ Tryd.underlying25 Tryd.underlying5 Tryd.underlying9⟩
    · exact ⟨_, _, _, rfl, run_convert_bytes_back (P := Tryd.prog) w 25 9 5 _ cap l Tryd.underlying25 Tryd.underlying5 Tryd.underlying9 (Lib.bytes_of_row hg (by simpa using htk))⟩
  obtain ⟨n, cap, a, rfl, hrun⟩ := hcv
  go_enter Tryd.func7, Tryd.ntmps7
  go_wp2_with fail
  go_ret
  exact ⟨rfl, rfl⟩
end Go.Proofs.YtjnhaglcigpknaaDoor
