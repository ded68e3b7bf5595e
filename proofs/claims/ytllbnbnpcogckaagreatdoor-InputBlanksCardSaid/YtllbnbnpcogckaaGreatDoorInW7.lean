/-
  CONTRACTS of layer 16's records: lay, Resize, Set, Get.
-/
import Derived.Test.YtllbnbnpcogckaaGreatDoorInW6
namespace Go.Proofs.YtllbnbnpcogckaaGreatDoor
open Go.RowKit

def LyPost (b : Nat) (T : ByteArray) (v : Value) (w : World) (e : Ending) (w' : World) : Prop :=
  e = .returned (.int .i64 0) ∧ ∃ w2, Below w.heap.size w w2 ∧ w' = (w2.setCell ⟨b, 0, none⟩ (.string T)).setCell ⟨b, 1, none⟩ v
set_option maxHeartbeats 1000000 in
theorem lay_any (b : Nat) (x y : Value) (p : Option Addr) (c : Nat) (l : List Ce) (ofs T : ByteArray) (w : World) (hx : w.heap[b]? = some (.cells #[x, y] 35 (0, 0))) (hr : w.ownsRow 0 42 3 (.slice p l.length c) l.length (ceRow l)) (hl : l.length ≤ 500) (hok : ∀ c ∈ l, okc c) (hT : T.data.toList = jk l ofs.data.toList l.length) (hTs : T.size ≤ 4000) (hos : ofs.size ≤ 4000) (G : Gi w) :
    Calls Tryz.prog 28 #[.pointer (some ⟨b, 0, none⟩), .slice p l.length c, .string ofs] w (LyPost b T (.slice p l.length c) w) := by
  have CJ := Lib.hid (join_any p c l ofs T w hr hl hok hT hTs hos G)
  have hbl := block_lt hx
  have HX := Lib.hid hx
  clear hr hok hT G hx
  go_enter Tryz.func28, Tryz.ntmps28
  go_wp2_with fail
  refine CJ.out.mono ?_
  rintro e w3 ⟨rfl, hb3⟩
  have hx3 := (hb3.block b hbl).trans HX.out
  have hc0 : w3.cell? ⟨b, 0, none⟩ = some x := block_cell hx3
  have hc1 : w3.cell? ⟨b, 1, none⟩ = some y := block_cell hx3
  have hf0 : w3.frozen? ⟨b, 0, none⟩ = false := block_frozen hx3
  have hf1 : w3.frozen? ⟨b, 1, none⟩ = false := block_frozen hx3
  have HB := Lib.hid hb3
  clear hb3 hx3 HX CJ
  go_wp2_with fail
  go_ret
  exact ⟨rfl, w3, HB.out, rfl⟩
theorem num_ok (n : Int) (w : World) (h0 : 0 ≤ n) (h5 : n ≤ 500) : Calls Tryz.prog 27 #[.int .i64 n] w fun e w' => e = .returned (.int .i64 0) ∧ w = w' := by
  have h := num_any n w
  rw [if_neg (by omega), if_neg (by omega)] at h
  exact h
theorem num_big (n : Int) (w : World) (h5 : 500 < n) : Calls Tryz.prog 27 #[.int .i64 n] w fun e w' => e = .returned (.int .i64 15) ∧ w = w' := by
  have h := num_any n w
  rw [if_neg (by omega), if_pos (by omega)] at h
  exact h
theorem num_low (n : Int) (w : World) (h5 : n < 0) : Calls Tryz.prog 27 #[.int .i64 n] w fun e w' => e = .returned (.int .i64 16) ∧ w = w' := by
  have h := num_any n w
  rw [if_pos (by omega)] at h
  exact h
set_option maxHeartbeats 1000000 in
theorem resize_any {w : World} {b : Nat} {s : ByteArray} {l : List Ce} {v : Value} (h : Rec w b s l v) (n : Nat) (hn : n ≤ 500) (ofs T : ByteArray) (hok : ∀ c ∈ szL l n, okc c) (hT : T.data.toList = jk (szL l n) ofs.data.toList n) (hTs : T.size ≤ 4000) (hos : ofs.size ≤ 4000) (G : Gi w) :
    Calls Tryz.prog 13 #[.pointer (some ⟨b, 0, none⟩), .int .i64 (n : Int), .string ofs] w (LdPost b T (szL l n) w) := by
  have CN := Lib.hid fun W => num_ok (n : Int) W (by omega) (by omega)
  have CZ := Lib.hid (sized_any h n hn)
  have hbl := h.lt
  have HX := Lib.hid h.blk
  have HG := Lib.hid G
  have hln := szL_len l n
  clear h G
  have CL : Hid (∀ (W : World) (p : Option Addr), W.heap[b]? = some (.cells #[.string s, v] 35 (0, 0)) → W.ownsRow 0 42 3 (.slice p n n) n (ceRow (szL l n)) → Gi W → Calls Tryz.prog 28 #[.pointer (some ⟨b, 0, none⟩), .slice p n n, .string ofs] W (LyPost b T (.slice p n n) W)) :=
    Lib.hid fun W p h1 h2 h3 => by
      have := lay_any b (.string s) v p n (szL l n) ofs T W h1 (by rw [hln]; exact h2) (by omega) hok (by rw [hln]; exact hT) hTs hos h3
      rw [hln] at this
      exact this
  clear hok hT
  go_enter Tryz.func13, Tryz.ntmps13
  go_wp2_with fail
  refine (CN.out _).mono ?_
  rintro e w1 ⟨rfl, rfl⟩
  go_wp2_with fail
  refine CZ.out.mono ?_
  rintro e w2 ⟨g, rfl, hr2, hb2⟩
  have hx2 := (hb2.block b hbl).trans HX.out
  have HR := Lib.hid hr2
  have HX2 := Lib.hid hx2
  have HB := Lib.hid hb2
  clear hr2 hb2 hx2 CZ HX CN
  go_wp2_with fail
  refine (CL.out _ _ HX2.out (own_mono HR.out (Nat.zero_le _)) (HG.out.next HB.out)).mono ?_
  rintro e w3 ⟨rfl, w4, hb4, rfl⟩
  have hb5 := HB.out.trans (hb4.mono HB.out.size)
  have HE := Lib.hid (Rec.laid (w := w) (s := T) (l := szL l n) ((hb4.block b (block_lt HX2.out)).trans HX2.out) (by rw [hln]; exact own_next HR.out hb4) hbl (Onl.of_below hb5 (Nat.le_refl _)))
  clear hb4 hb5 HX2 HR HB CL
  go_wp2_with fail
  go_ret
  exact ⟨rfl, HE.out⟩
theorem resize_big (b : Nat) (n : Int) (hn : 500 < n) (ofs : ByteArray) (w : World) :
    Calls Tryz.prog 13 #[.pointer (some ⟨b, 0, none⟩), .int .i64 n, .string ofs] w fun e w' => e = .returned (.int .i64 15) ∧ Below w.heap.size w w' := by
  have CN := Lib.hid fun W => num_big n W hn
  go_enter Tryz.func13, Tryz.ntmps13
  go_wp2_with fail
  refine (CN.out _).mono ?_
  rintro e w1 ⟨rfl, rfl⟩
  go_wp2_with fail
  go_ret
  exact ⟨rfl, Below.refl _ _⟩
/-- Behind Set: so many fields as there must be, one of them this. -/
def stL (l : List Ce) (j : Nat) (t : Ce) : List Ce := (szL l (max (j + 1) l.length)).set j t
theorem stL_len (l : List Ce) (j : Nat) (t : Ce) : (stL l j t).length = max (j + 1) l.length := by unfold stL; rw [List.length_set, szL_len]
theorem set_row {w : World} {B g n : Nat} {l : List Ce} (h : w.ownsRow B 42 3 (.slice (some ⟨g, 0, none⟩) n n) n (ceRow l)) (j : Nat) (hj : j < l.length) (t : Ce) :
    (((w.setCell ⟨g, j * 3, none⟩ (.int .i64 t.k)).setCell ⟨g, j * 3 + 1, none⟩ (.int .i64 t.n)).setCell ⟨g, j * 3 + 2, none⟩ (.string t.s)).ownsRow B 42 3 (.slice (some ⟨g, 0, none⟩) n n) n (ceRow (l.set j t)) := by
  have h1 := (((h.stored (j * 3) (.int .i64 t.k)).1.stored (j * 3 + 1) (.int .i64 t.n)).1.stored (j * 3 + 2) (.string t.s)).1
  have e1 : l = l.take j ++ l[j] :: l.drop (j + 1) := by rw [List.getElem_cons_drop, List.take_append_drop]
  have e2 : l.set j t = l.take j ++ t :: l.drop (j + 1) := by rw [List.set_eq_take_append_cons_drop, if_pos hj]
  have h2 := ceRow_set (l.take j) (l.drop (j + 1)) l[j] t
  rw [show (l.take j).length = j by rw [List.length_take]; omega, ← e1] at h2
  rw [e2, ← h2]
  exact h1
set_option maxHeartbeats 2000000 in
theorem rset_any {w : World} {b : Nat} {s : ByteArray} {l : List Ce} {v : Value} (h : Rec w b s l v) (j : Nat) (t : Ce) (hj : j + 1 ≤ 500) (hl : l.length ≤ 500) (sep ofs T : ByteArray) (hts : t.s.size ≤ 1000000) (hok : ∀ c ∈ stL l j t, okc c) (hT : T.data.toList = jk (stL l j t) ofs.data.toList (max (j + 1) l.length)) (hTs : T.size ≤ 4000) (hos : ofs.size ≤ 4000) (G : Gi w) :
    Calls Tryz.prog 15 #[.pointer (some ⟨b, 0, none⟩), .int .i64 ((j : Int) + 1), .agg #[.int .i64 t.k, .int .i64 t.n, .string t.s], .string sep, .string ofs] w (LdPost b T (stL l j t) w) := by
  obtain ⟨p, c, rfl⟩ := h.form
  obtain ⟨m, hm⟩ : ∃ m, max (j + 1) l.length = m := ⟨_, rfl⟩
  have hmx : max ((j : Int) + 1) (l.length : Int) = (m : Int) := by omega
  have hm5 : m ≤ 500 := by omega
  have hjm : j < m := by omega
  have CN := Lib.hid fun W => num_ok ((j : Int) + 1) W (by omega) (by omega)
  have CK := Lib.hid fun W => iclone_any t.k t.n t.s W hts
  unfold cv at CK
  have HRC := Lib.hid h
  have hbl := h.lt
  have HG := Lib.hid G
  have hln := stL_len l j t
  rw [hm] at hln hT
  have hsz : (szL l m).length = m := szL_len l m
  have hset : stL l j t = (szL l m).set j t := by unfold stL; rw [hm]
  clear h G
  have CL : Hid (∀ (W : World) (q : Option Addr), W.heap[b]? = some (.cells #[.string s, .slice p l.length c] 35 (0, 0)) → W.ownsRow 0 42 3 (.slice q m m) m (ceRow (stL l j t)) → Gi W → Calls Tryz.prog 28 #[.pointer (some ⟨b, 0, none⟩), .slice q m m, .string ofs] W (LyPost b T (.slice q m m) W)) :=
    Lib.hid fun W q h1 h2 h3 => by
      have := lay_any b (.string s) _ q m (stL l j t) ofs T W h1 (by rw [hln]; exact h2) (by omega) hok (by rw [hln]; exact hT) hTs hos h3
      rw [hln] at this
      exact this
  clear hok hT hm
  have hj0 : ¬ ((j : Int) + 1 = 0) := by omega
  have HS := Lib.hid (And.intro hln (And.intro hsz hset))
  clear hln hsz hset
  obtain ⟨tk, tn, ts⟩ := t
  simp only at *
  go_enter Tryz.func15, Tryz.ntmps15
  go_wp2_with fail
  refine (CN.out _).mono ?_
  rintro e w1 ⟨rfl, rfl⟩
  have hba : Below w.heap.size w (w.alloc (.cells #[.int .i64 tk, .int .i64 tn, .string ts] 42)) := (Below.refl _ _).alloc (Nat.le_refl _) _
  have HR1 := Lib.hid (HRC.out.next hba)
  have hc1 : (w.alloc (.cells #[.int .i64 tk, .int .i64 tn, .string ts] 42)).cell? ⟨b, 1, none⟩ = some (.slice p l.length c) := block_cell HR1.out.blk
  have CZ := Lib.hid (sized_any HR1.out m hm5)
  have HBA := Lib.hid hba
  clear hba
  go_wp2_with fail
  refine CZ.out.mono ?_
  rintro e w2 ⟨g, rfl, hr2, hb2⟩
  have y0 : w2.cell? ⟨w.heap.size, 0, none⟩ = some (.int .i64 tk) := (hb2.cell (p := ⟨w.heap.size, 0, none⟩) (by simp)).trans (by simp [go_sem])
  have y1 : w2.cell? ⟨w.heap.size, 1, none⟩ = some (.int .i64 tn) := (hb2.cell (p := ⟨w.heap.size, 1, none⟩) (by simp)).trans (by simp [go_sem])
  have y2 : w2.cell? ⟨w.heap.size, 2, none⟩ = some (.string ts) := (hb2.cell (p := ⟨w.heap.size, 2, none⟩) (by simp)).trans (by simp [go_sem])
  have hx2 := (hb2.block b (by simp; omega)).trans HR1.out.blk
  have HR := Lib.hid hr2
  have HX2 := Lib.hid hx2
  have HB := Lib.hid (HBA.out.trans (hb2.mono (by simp)))
  have HGB := Lib.hid (show w.heap.size ≤ g from Nat.le_trans (by simp) (hr2.lt g rfl).1)
  clear hr2 hb2 hx2 CZ HRC CN HR1 hc1 HBA
  go_wp2_with fail
  refine (CK.out _).mono ?_
  rintro e w3 ⟨rfl, hb3⟩
  have HR3 := Lib.hid (own_next HR.out hb3)
  have HX3 := Lib.hid ((hb3.block b (block_lt HX2.out)).trans HX2.out)
  have HB3 := Lib.hid (HB.out.trans (hb3.mono HB.out.size))
  have hjs : j < (szL l m).length := by have := HS.out.2.1; omega
  obtain ⟨z0, z1, z2⟩ := ce_cells HR3.out j hjm hjs
  have f0 := HR3.out.frozenAt (j * 3)
  have f1 := HR3.out.frozenAt (j * 3 + 1)
  have f2 := HR3.out.frozenAt (j * 3 + 2)
  have HN := Lib.hid (set_row HR3.out j (by have := HS.out.2.1; omega) ⟨tk, tn, ts⟩)
  have HB4 := Lib.hid (((HB3.out.setCell (p := ⟨g, j * 3, none⟩) HGB.out (.int .i64 tk)).setCell (p := ⟨g, j * 3 + 1, none⟩) HGB.out (.int .i64 tn)).setCell (p := ⟨g, j * 3 + 2, none⟩) HGB.out (.string ts))
  have HX4 : Hid ((((w3.setCell ⟨g, j * 3, none⟩ (.int .i64 tk)).setCell ⟨g, j * 3 + 1, none⟩ (.int .i64 tn)).setCell ⟨g, j * 3 + 2, none⟩ (.string ts)).heap[b]? = some (.cells #[.string s, .slice p l.length c] 35 (0, 0))) := Lib.hid (by
    have hne : b ≠ g := by have := HGB.out; omega
    rw [Below.heap_setCell _ _ _ b hne, Below.heap_setCell _ _ _ b hne, Below.heap_setCell _ _ _ b hne]
    exact HX3.out)
  clear hb3 HR HX2 HB HR3 HX3 HB3 y0 y1 y2 CK
  generalize ((szL l m)[j]'hjs).k = q0 at *
  generalize ((szL l m)[j]'hjs).n = q1 at *
  generalize ((szL l m)[j]'hjs).s = q2 at *
  go_wp2_with fail
  refine (CL.out _ _ HX4.out (by rw [HS.out.2.2]; exact own_mono HN.out (Nat.zero_le _)) (HG.out.next HB4.out)).mono ?_
  rintro e w5 ⟨rfl, w6, hb6, rfl⟩
  have hb7 := HB4.out.trans (hb6.mono HB4.out.size)
  have HE := Lib.hid (Rec.laid (w := w) (s := T) (l := stL l j ⟨tk, tn, ts⟩) ((hb6.block b (block_lt HX4.out)).trans HX4.out) (by rw [HS.out.1, HS.out.2.2]; exact own_next (own_mono HN.out (by simp)) hb6) hbl (Onl.of_below hb7 (Nat.le_refl _)))
  clear hb6 hb7 HX4 HN HB4 CL
  go_wp2_with fail
  go_ret
  exact ⟨rfl, HE.out⟩
theorem rset_big (b : Nat) (n : Int) (hn : 500 < n) (t : Ce) (sep ofs : ByteArray) (w : World) :
    Calls Tryz.prog 15 #[.pointer (some ⟨b, 0, none⟩), .int .i64 n, .agg #[.int .i64 t.k, .int .i64 t.n, .string t.s], .string sep, .string ofs] w fun e w' => e = .returned (.int .i64 15) ∧ Below w.heap.size w w' := by
  have CN := Lib.hid fun W => num_big n W hn
  go_enter Tryz.func15, Tryz.ntmps15
  go_wp2_with fail
  refine (CN.out _).mono ?_
  rintro e w1 ⟨rfl, rfl⟩
  go_wp2_with fail
  go_ret
  exact ⟨rfl, (Below.refl _ _).alloc (Nat.le_refl _) _⟩
theorem rget_bad (b : Nat) (n k : Int) (hn : (500 < n ∧ k = 15) ∨ (n < 0 ∧ k = 16)) (w : World) :
    Calls Tryz.prog 17 #[.pointer (some ⟨b, 0, none⟩), .int .i64 n] w fun e w' => e = .returned (.tuple #[.agg #[.int .i64 0, .int .i64 0, .string ⟨#[]⟩], .int .i64 k]) ∧ Below w.heap.size w w' := by
  have CN : Hid (∀ W, Calls Tryz.prog 27 #[.int .i64 n] W fun e w' => e = .returned (.int .i64 k) ∧ W = w') := Lib.hid fun W => by
    rcases hn with ⟨h, rfl⟩ | ⟨h, rfl⟩
    · exact num_big n W h
    · exact num_low n W h
  have hk : ¬ k = 0 := by omega
  go_enter Tryz.func17, Tryz.ntmps17
  go_wp2_with fail
  refine (CN.out _).mono ?_
  rintro e w1 ⟨rfl, rfl⟩
  go_wp2_with fail
  refine bodyPost_ret (v := .tuple #[.agg #[.int .i64 0, .int .i64 0, .string ⟨#[]⟩], .int .i64 k]) ?_ rfl ⟨rfl, ?_⟩
  · simp [results, Tryz.results17, go_sem]
  · exact (Below.refl w.heap.size w).alloc (Nat.le_refl _) _
set_option maxHeartbeats 1000000 in
theorem rget_any {w : World} {b : Nat} {s : ByteArray} {l : List Ce} {v : Value} (h : Rec w b s l v) (j : Nat) (hj : j < l.length) (hl : l.length ≤ 500) (t : Ce) (ht : l[j] = t) (hts : t.s.size ≤ 1000000) :
    Calls Tryz.prog 17 #[.pointer (some ⟨b, 0, none⟩), .int .i64 ((j : Int) + 1)] w fun e w' => e = .returned (.tuple #[.agg #[.int .i64 t.k, .int .i64 t.n, .string t.s], .int .i64 0]) ∧ Below w.heap.size w w' := by
  obtain ⟨p, c, rfl⟩ := h.form
  have CN := Lib.hid fun W => num_ok ((j : Int) + 1) W (by omega) (by omega)
  have CK := Lib.hid fun W => iclone_any t.k t.n t.s W hts
  unfold cv at CK
  obtain ⟨g, rfl⟩ : ∃ g, p = some ⟨g, 0, none⟩ := by
    rcases h.row.2 with ⟨h1, h0⟩ | ⟨g, cap, cur, h1, _⟩
    · omega
    · injection h1 with h1 _ _; exact ⟨g, h1⟩
  have hba : Below w.heap.size w (w.alloc (.cells #[.int .i64 0, .int .i64 0, .string ⟨#[]⟩] 42)) := (Below.refl _ _).alloc (Nat.le_refl _) _
  have hn := h.next hba
  have hc1 : (w.alloc (.cells #[.int .i64 0, .int .i64 0, .string ⟨#[]⟩] 42)).cell? ⟨b, 1, none⟩ = some (.slice (some ⟨g, 0, none⟩) l.length c) := block_cell hn.blk
  obtain ⟨z0, z1, z2⟩ := ce_cells hn.row j hj hj
  rw [ht] at z0 z1 z2
  have hj0 : ¬ ((j : Int) + 1 = 0) := by omega
  have hjl : ¬ ((l.length : Int) < (j : Int) + 1) := by omega
  have hjl' : (j : Int) < (l.length : Int) := by omega
  have hbl := h.lt
  have hgl := (h.row.lt g rfl).2
  obtain ⟨tk, tn, ts⟩ := t
  simp only at *
  clear h hn ht hba
  go_enter Tryz.func17, Tryz.ntmps17
  go_wp2_with fail
  refine (CN.out _).mono ?_
  rintro e w1 ⟨rfl, rfl⟩
  go_wp2_with fail
  refine (CK.out _).mono ?_
  rintro e w3 ⟨rfl, hb3⟩
  have y0 : w3.cell? ⟨w.heap.size, 0, none⟩ = some (.int .i64 0) := (hb3.cell (p := ⟨w.heap.size, 0, none⟩) (by simp)).trans (by simp [go_sem])
  have y1 : w3.cell? ⟨w.heap.size, 1, none⟩ = some (.int .i64 0) := (hb3.cell (p := ⟨w.heap.size, 1, none⟩) (by simp)).trans (by simp [go_sem])
  have y2 : w3.cell? ⟨w.heap.size, 2, none⟩ = some (.string ⟨#[]⟩) := (hb3.cell (p := ⟨w.heap.size, 2, none⟩) (by simp)).trans (by simp [go_sem])
  have f0 : w3.frozen? ⟨w.heap.size, 0, none⟩ = false := (hb3.frozen (p := ⟨w.heap.size, 0, none⟩) (by simp)).trans (by simp [go_sem])
  have f1 : w3.frozen? ⟨w.heap.size, 1, none⟩ = false := (hb3.frozen (p := ⟨w.heap.size, 1, none⟩) (by simp)).trans (by simp [go_sem])
  have f2 : w3.frozen? ⟨w.heap.size, 2, none⟩ = false := (hb3.frozen (p := ⟨w.heap.size, 2, none⟩) (by simp)).trans (by simp [go_sem])
  have HB := Lib.hid (below_new hb3)
  clear hb3 z0 z1 z2 hc1 CK CN
  go_wp2_with fail
  refine bodyPost_ret (v := .tuple #[.agg #[.int .i64 tk, .int .i64 tn, .string ts], .int .i64 0]) ?_ rfl ⟨rfl, ?_⟩
  · simp [results, Tryz.results17, go_sem, y0, y1, y2]
  · exact ((HB.out.setCell (p := ⟨w.heap.size, 0, none⟩) (Nat.le_refl _) _).setCell (p := ⟨w.heap.size, 1, none⟩) (Nat.le_refl _) _).setCell (p := ⟨w.heap.size, 2, none⟩) (Nat.le_refl _) _
end Go.Proofs.YtllbnbnpcogckaaGreatDoor
