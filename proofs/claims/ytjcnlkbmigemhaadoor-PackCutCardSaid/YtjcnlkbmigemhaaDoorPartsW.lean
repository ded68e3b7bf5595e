/-
  THE WALK of the law PackParts.
-/
import Derived.Test.YtjcnlkbmigemhaaDoorWholeW
import Derived.Maps.OwnIn
namespace Go.Proofs.YtjcnlkbmigemhaaDoor
open Go.RowKit Go.Shelf
attribute [local go_sem] Oper.semAt_some

theorem things_call (s : ByteArray) (w : World) :
    Calls Tryd.prog 10 #[.string s] w fun e w' => ∃ bs, e = .returned (.func (.func 27) #[] #[.pointer (some ⟨bs, 0, none⟩)]) ∧ w.heap.size ≤ bs ∧ w'.cell? ⟨bs, 0, none⟩ = some (.string s) ∧ Below w.heap.size w w' := by
  go_enter Tryd.func10, Tryd.ntmps10
  go_wp2
  go_ret
  exact ⟨w.heap.size, rfl, Nat.le_refl _, by simp [go_sem], (Below.refl _ _).alloc (Nat.le_refl _) _⟩

/-- A variable (block bl) that holds a row of texts of the call's own; both lie in C. -/
def Col (W : World) (base bl : Nat) (C : Nat → Prop) (xs : List ByteArray) : Prop :=
  ∃ g c, W.cell? ⟨bl, 0, none⟩ = some (.slice (some ⟨g, 0, none⟩) xs.length c) ∧ W.frozen? ⟨bl, 0, none⟩ = false ∧ W.ownsRow base 9 1 (.slice (some ⟨g, 0, none⟩) xs.length c) xs.length (xs.map Value.string) ∧ C bl ∧ C g ∧ g ≠ bl
theorem Col.same {A B : World} {base bl : Nat} {C : Nat → Prop} {xs : List ByteArray} (h : Col A base bl C xs) (hs : Same C A B) : Col B base bl C xs := by
  obtain ⟨g, c, h1, h2, h3, h4, h5, h6⟩ := h
  exact ⟨g, c, (hs.cell (p := ⟨bl, 0, none⟩) h4).trans h1, (hs.frozen (p := ⟨bl, 0, none⟩) h4).trans h2, ownsRow_heap h3 (hs.block g h5), h4, h5, h6⟩
theorem Col.mono {A : World} {base bl : Nat} {C C' : Nat → Prop} {xs : List ByteArray} (h : Col A base bl C xs) (hC : ∀ k, C k → C' k) : Col A base bl C' xs := by
  obtain ⟨g, c, h1, h2, h3, h4, h5, h6⟩ := h
  exact ⟨g, c, h1, h2, h3, hC _ h4, hC _ h5, h6⟩
theorem col_after {W W2 : World} {base L g c g' cap' n : Nat} {C : Nat → Prop} {xs : List ByteArray} {x : ByteArray} {o : Obj} (hn : n = xs.length) (h1 : W.cell? ⟨L, 0, none⟩ = some (.slice (some ⟨g, 0, none⟩) n c)) (h2 : W.frozen? ⟨L, 0, none⟩ = false) (h4 : C L) (h5 : C g) (h6 : g ≠ L) (hC : ∀ k, C k → k < W.heap.size)
    (hown : W2.ownsRow base 9 1 (.slice (some ⟨g', 0, none⟩) (n + 1) cap') (n + 1) (xs.map Value.string ++ [.string x])) (hgrow : (W.alloc o).grownBy W2 (some g)) (hat : some g' = some g ∨ some g' = some (W.heap.size + 1)) :
    W2.cell? ⟨L, 0, none⟩ = some (.slice (some ⟨g, 0, none⟩) n c) ∧ W2.frozen? ⟨L, 0, none⟩ = false ∧
    (∀ k, (C k ∨ k = g') → C k ∨ W.heap.size ≤ k) ∧ (∀ k, (C k ∨ k = g') → k < (W2.setCell ⟨L, 0, none⟩ (.slice (some ⟨g', 0, none⟩) (n + 1) cap')).heap.size) ∧ Came C W (W2.setCell ⟨L, 0, none⟩ (.slice (some ⟨g', 0, none⟩) (n + 1) cap')) ∧
    Col (W2.setCell ⟨L, 0, none⟩ (.slice (some ⟨g', 0, none⟩) (n + 1) cap')) base L (fun k => C k ∨ k = g') (xs ++ [x]) := by
  subst hn
  have hLW : L < W.heap.size := World.block_lt_of_cell? _ _ h1
  have eb : W2.heap[L]? = W.heap[L]? := (hgrow.block L (by simp; omega) (fun e => h6 (Option.some.inj e).symm)).trans (Below.heap_alloc W o L hLW)
  have c2 : W2.cell? ⟨L, 0, none⟩ = some (.slice (some ⟨g, 0, none⟩) xs.length c) := (World.cell?_of_block (w := W) (a := ⟨L, 0, none⟩) eb).trans h1
  have f2 : W2.frozen? ⟨L, 0, none⟩ = false := (World.frozen?_of_block (w := W) (a := ⟨L, 0, none⟩) eb).trans h2
  have hs2 : W.heap.size < W2.heap.size := by have := hgrow.size; simp at this; omega
  have hg' : g' = g ∨ g' = W.heap.size + 1 := by
    rcases hat with h | h
    · exact Or.inl (Option.some.inj h)
    · exact Or.inr (Option.some.inj h)
  have hgl : g' < W2.heap.size := heap_lt (ownsRow_kind28 hown).2.choose_spec.choose_spec
  have hgL : g' ≠ L := by
    rcases hg' with h | h
    · rw [h]; exact h6
    · omega
  refine ⟨c2, f2, fun k hk => ?_, fun k hk => ?_, ⟨?_, ?_, ?_, ?_, fun k hk hn => ?_⟩, ?_⟩
  · rcases hk with h | rfl
    · exact Or.inl h
    · rcases hg' with h | h
      · rw [h]; exact Or.inl h5
      · exact Or.inr (by omega)
  · rw [World.size_setCell]
    rcases hk with h | rfl
    · have := hC k h; omega
    · exact hgl
  · exact hgrow.os
  · exact hgrow.tape
  · exact hgrow.output
  · rw [World.size_setCell]; omega
  · have n1 : k ≠ L := fun e => hn (e ▸ h4)
    have n2 : k ≠ g := fun e => hn (e ▸ h5)
    exact (Below.heap_setCell W2 ⟨L, 0, none⟩ _ k n1).trans ((hgrow.block k (by simp; omega) (fun e => n2 (Option.some.inj e))).trans (Below.heap_alloc W o k hk))
  · refine ⟨g', cap', ?_, ?_, ?_, Or.inl h4, Or.inr rfl, hgL⟩
    · rw [List.length_append, List.length_singleton]
      exact World.cell?_setCell_same' _ _ _ (by rw [c2]; rfl)
    · rw [World.frozen?_setCell]; exact f2
    · rw [List.length_append, List.length_singleton, List.map_append]
      exact ownsRow_heap hown (Below.heap_setCell W2 ⟨L, 0, none⟩ _ g' hgL)
theorem Came.cell {C : Nat → Prop} {A B : World} (h : Came C A B) {a : Addr} (hk : a.block < A.heap.size) (hn : ¬ C a.block) : B.cell? a = A.cell? a := World.cell?_of_block (h.block _ hk hn)
theorem Came.frozen {C : Nat → Prop} {A B : World} (h : Came C A B) {a : Addr} (hk : a.block < A.heap.size) (hn : ¬ C a.block) : B.frozen? a = A.frozen? a := World.frozen?_of_block (h.block _ hk hn)
theorem bytes_ne {a b : ByteArray} (h : ¬ a = b) : (a.toList == b.toList) = false := by
  rw [Lib.toList_data, Lib.toList_data]
  simpa using fun e => h (WideShapes.bytes_inj e)
theorem Tryd.infoStr : (Tryd.prog.info? 9).map (fun i => (i.zero, i.size, i.bytes)) = some (some (.string ⟨#[]⟩), 1, 16) := by kernel_rfl

set_option maxHeartbeats 2000000 in
set_option maxRecDepth 100000 in
theorem parts_walk (p : Option Addr) (cap : Nat) (l : List Th) (q : Option Addr) (cap2 : Nat) (m : List Th) (w : World) (hA : ThAt w p l) (hl : l.length ≤ maxLen) (hok : ∀ t ∈ l, t.ok) (hB : ThAt w q m) (hm : m.length ≤ maxLen) (hok2 : ∀ t ∈ m, t.ok)
    (htab : Lib.TabBelow Tryd.prog w.heap.size w "internal/strconv.uint64pow10" .u64 Lib.pow10Tab) :
    Calls Tryd.prog 5 #[.slice p l.length cap, .slice q m.length cap2] w fun e w' => e = .returned (.bool true) ∧ Below w.heap.size w w' := by
  obtain ⟨i0, hi, hz0, hz1, hz2⟩ := info_parts Tryd.infoStr
  refine (callsIn_wide (n := 6)).1 ?_
  refine callsIn_of_wp_marks Tryd.func5 rfl trivial ?_ rfl
  simp only [Tryd.ntmps5, List.size_toArray, List.length_cons, List.length_nil, Nat.reduceAdd, Nat.reduceSub, Array.replicate_succ, Array.replicate_zero, List.push_toArray, List.append_toArray, List.nil_append, List.cons_append]
  have t1 : Fence.wide.fn 7 := trivial
  have t2 : Fence.wide.fn 19 := trivial
  have t3 : Fence.wide.fn 10 := trivial
  have HTAB := Lib.hid htab
  have HA := Lib.hid hA
  have HB := Lib.hid hB
  have hle1 := few_length l 20
  have hle2 := few_length m 20
  have HS1 := Lib.hid (few_small (n := 20) hok)
  have HS2 := Lib.hid (few_small (n := 20) hok2)
  have HW1 := Lib.hid (fun w hA htab => whole_any p cap l w hA hl hok htab)
  have HW2 := Lib.hid (fun w hB htab => whole_any q cap2 m w hB hm hok2 htab)
  obtain ⟨Ps, hPs⟩ : ∃ Ps, Ps = wpc (fewL l 20) := ⟨_, rfl⟩
  obtain ⟨Qs, hQs⟩ : ∃ Qs, Qs = wpc (fewL m 20) := ⟨_, rfl⟩
  have TP := Lib.hid (show ∀ P ∈ Ps, Takes P by rw [hPs]; exact wpc_takes HS1.out)
  have TQ := Lib.hid (show ∀ P ∈ Qs, Takes P by rw [hQs]; exact wpc_takes HS2.out)
  have lP : Ps.flatten.length ≤ 6040 := by
    have := wpc_len HS1.out (fewL l 20).length
    rw [List.take_length, ← hPs] at this; omega
  have lQ : Qs.flatten.length ≤ 6040 := by
    have := wpc_len HS2.out (fewL m 20).length
    rw [List.take_length, ← hQs] at this; omega
  have nP : Ps.length ≤ 20 := by have := wpc_count (fewL l 20); rw [← hPs] at this; omega
  have nQ : Qs.length ≤ 20 := by have := wpc_count (fewL m 20); rw [← hQs] at this; omega
  rw [← hPs] at HW1
  rw [← hQs] at HW2
  have dS : (ba Ps.flatten).data.toList = Ps.flatten := ba_data _
  have dT : (ba Qs.flatten).data.toList = Qs.flatten := ba_data _
  have zS : (ba Ps.flatten).size ≤ 6040 := by show Ps.flatten.length ≤ 6040; exact lP
  have zT : (ba Qs.flatten).size ≤ 6040 := by show Qs.flatten.length ≤ 6040; exact lQ
  generalize ba Ps.flatten = S at *
  generalize ba Qs.flatten = T at *
  have DS := Lib.hid dS
  have DT := Lib.hid dT
  clear htab hA hB hl hm hok hok2 HS1 HS2 hle1 hle2 hPs hQs dS dT
  have hba : Below w.heap.size w (w.alloc (.cells #[.bool false] 4)) := (Below.refl _ _).alloc (Nat.le_refl _) _
  have HBA := Lib.hid hba
  clear hba
  gi_wp2_with fail
  refine (callsIn_wide.2 (awake_any _ (tab_at HTAB.out HBA.out HBA.out.size))).mono ?_
  rintro e w1 ⟨rfl, hb1⟩
  have HB1 := Lib.hid (HBA.out.trans (hb1.mono HBA.out.size))
  have hr1 : w1.cell? ⟨w.heap.size, 0, none⟩ = some (.bool false) := (hb1.cell (p := ⟨w.heap.size, 0, none⟩) (by simp)).trans (by simp [go_sem])
  have fr1 : w1.frozen? ⟨w.heap.size, 0, none⟩ = false := (hb1.frozen (p := ⟨w.heap.size, 0, none⟩) (by simp)).trans (by simp [go_sem])
  have hz1 : w.heap.size < w1.heap.size := by have := hb1.size; simp at this; omega
  clear hb1
  gi_wp2_with fail
  refine (callsIn_wide.2 (HW1.out _ (HA.out.below HB1.out) (tab_at HTAB.out HB1.out HB1.out.size))).mono ?_
  rintro e w2 ⟨rfl, hb2⟩
  have HB2 := Lib.hid (HB1.out.trans (hb2.mono HB1.out.size))
  have hr2 := (hb2.cell (p := ⟨w.heap.size, 0, none⟩) hz1).trans hr1
  have fr2 := (hb2.frozen (p := ⟨w.heap.size, 0, none⟩) hz1).trans fr1
  have hz2 : w.heap.size < w2.heap.size := by have := hb2.size; omega
  clear hb2 hr1 fr1 hz1 HB1
  gi_wp2_with fail
  refine (callsIn_wide.2 (HW2.out _ (HB.out.below HB2.out) (tab_at HTAB.out HB2.out HB2.out.size))).mono ?_
  rintro e w3 ⟨rfl, hb3⟩
  have HB3 := Lib.hid (HB2.out.trans (hb3.mono HB2.out.size))
  have hr3 := (hb3.cell (p := ⟨w.heap.size, 0, none⟩) hz2).trans hr2
  have fr3 := (hb3.frozen (p := ⟨w.heap.size, 0, none⟩) hz2).trans fr2
  have hz3 : w.heap.size < w3.heap.size := by have := hb3.size; omega
  clear hb3 hr2 fr2 hz2 HB2 HW1 HW2 HA HB
  gi_wp2_with fail
  obtain ⟨L, hL⟩ : ∃ L, L = w3.heap.size + 1 := ⟨_, rfl⟩
  obtain ⟨W4, hW4⟩ : ∃ W4, W4 = (w3.alloc (.cells #[] 9)).alloc (.cells #[.slice (some ⟨w3.heap.size, 0, none⟩) 0 0] 51) := ⟨_, rfl⟩
  have hb4 : Below w3.heap.size w3 W4 := by rw [hW4]; exact ((Below.refl _ _).alloc (Nat.le_refl _) _).alloc (by simp) _
  have hz4 : W4.heap.size = w3.heap.size + 2 := by rw [hW4]; simp
  have col4 : Col W4 (w.heap.size + 1) L (fun k => k = w3.heap.size ∨ k = L) [] := by
    have hI0 : ((w3.alloc (.cells #[] 9)).alloc (.cells #[.slice (some ⟨w3.heap.size, 0, none⟩) 0 0] 51)).ownsRow (w.heap.size + 1) 9 1 (.slice (some ⟨w3.heap.size, 0, none⟩) 0 0) 0 [] := by
      have h := World.ownsRow_made (base := w.heap.size + 1) (e := 9) (size := 1) w3 #[] 0 (by omega) (by decide) rfl
      have h2 : (w3.alloc (.cells #[] 9)).ownsRow (w.heap.size + 1) 9 1 (.slice (some ⟨w3.heap.size, 0, none⟩) 0 0) 0 [] := by simpa using h
      exact h2.alloc _
    rw [hW4, hL]
    exact ⟨w3.heap.size, 0, by simp [go_sem], by simp [go_sem], hI0, Or.inr rfl, Or.inl rfl, by omega⟩
  have HB4 := Lib.hid (HB3.out.trans (hb4.mono HB3.out.size))
  have hr4 := (hb4.cell (p := ⟨w.heap.size, 0, none⟩) hz3).trans hr3
  have fr4 := (hb4.frozen (p := ⟨w.heap.size, 0, none⟩) hz3).trans fr3
  rw [← hW4, ← hL]
  have HL := Lib.hid hL
  have HZ4 := Lib.hid hz4
  have hL1 : w.heap.size < L := by omega
  have hL2 : L < W4.heap.size := by omega
  have hz4' : w.heap.size < W4.heap.size := by omega
  clear hb4 hW4 hr3 fr3 HB3 hL hz4
  refine (callsIn_wide.2 (things_call S W4)).mono ?_
  rintro e w5 ⟨bs, rfl, hbs0, hbs1, hb5⟩
  have col5 := col4.same (Same.below hb5 (fun k hk => by have := HZ4.out; rcases hk with rfl | rfl <;> omega))
  have HB5 := Lib.hid (HB4.out.trans (hb5.mono HB4.out.size))
  have hr5 := (hb5.cell (p := ⟨w.heap.size, 0, none⟩) hz4').trans hr4
  have fr5 := (hb5.frozen (p := ⟨w.heap.size, 0, none⟩) hz4').trans fr4
  have hz5 : W4.heap.size ≤ w5.heap.size := hb5.size
  have hbs5 : bs < w5.heap.size := World.block_lt_of_cell? _ _ hbs1
  clear hb5 hr4 fr4 col4 HB4
  gi_wp2_with fail
  refine wpIn_rangeC (F := Fence.wide) rfl (by omega) (gf := 27) (lb := #[.pointer (some ⟨bs, 0, none⟩)]) rfl trivial (enters_of Tryd.func27 (by kernel_rfl) rfl)
    (things_seq S (by omega) bs _ (by omega) w5 hbs1) (Below.refl _ _) (fun _ => rfl) (fun k => k = w3.heap.size ∨ k = L) (fun k hk hc => by have := HZ4.out; subst hk; rcases hc with h | h <;> omega) (fun k hk => by subst hk; exact hbs5) (fun k hc => by have := HZ4.out; rcases hc with h | h <;> omega)
    (fun (pre : List (Nat × ByteArray)) C W => Col W (w.heap.size + 1) L C (pre.map Prod.snd) ∧ ∀ k, C k → k < W.heap.size) (fun _ _ _ _ => False) (fun pre C A B h hs => ⟨Col.same h.1 hs, fun k hk => Nat.lt_of_lt_of_le (h.2 k hk) hs.size⟩) (fun _ _ _ _ _ h _ => h) ⟨col5, fun k hc => by have := HZ4.out; rcases hc with h | h <;> omega⟩ ?a1 ?assign ?body ?done ?stop
  case assign =>
    intro l' x W K hK
    gi_wp2
    exact hK
  case stop => rintro D c pre C W _ h; exact h.elim
  case body =>
    rintro l' pre x C W ⟨⟨g, c, h1, h2, h3, h4, h5, h6⟩, hC⟩ hcm hf hlen
    rw [List.length_map] at h1 h3
    have hlW : L < W.heap.size := hC L h4
    have b1 : pre.length ≤ 7000 := by omega
    have bw : w.heap.size + 1 ≤ W.heap.size := by omega
    clear hcm hf hlen
    have H3 := Lib.hid h3
    have HC := Lib.hid hC
    clear h3 hC
    gi_wp2_with (gi_at_builtin; refine wpListIn_append_own_at _ rfl (.tmp 27) (.tmp 29) 51 rfl (w.heap.size + 1) 9 i0 (.string ⟨#[]⟩) 1 16 Tryd.underlying51 hi hz0 hz1 hz2 rfl (by decide) (.slice (some ⟨g, 0, none⟩) pre.length c) pre.length ((pre.map Prod.snd).map Value.string) rfl (H3.out.alloc _) ⟨W.heap.size, 0, none⟩ 1 1 [.string x.2] rfl rfl ?c1 ?c2 ?c3 ?c4 ?c5 ?_)
    case c1 => exact cell_one_new _ _ _
    case c2 => simp [Value.oneCell']
    case c3 => unfold maxLen; omega
    case c4 => omega
    case c5 => simp; omega
    intro v' W2 hown1 hgrow _ hat
    obtain ⟨g', cap', rfl⟩ := ownsRow_succ hown1
    obtain ⟨k1, k2, k3, k4, k5, k6⟩ := col_after (C := C) (xs := pre.map Prod.snd) (x := x.2) (by rw [List.length_map]) h1 h2 h4 h5 h6 HC.out (by rw [List.map_map]; exact hown1) hgrow hat
    have K3 := Lib.hid k3
    have K4 := Lib.hid k4
    have K5 := Lib.hid k5
    have K6 := Lib.hid k6
    clear hown1 hgrow hat k3 k4 k5 k6 h1 h2
    gi_wp2
    exact ⟨_, K3.out, K4.out, K5.out, by rw [List.map_append]; exact K6.out, K4.out⟩
  case done =>
    rintro D xs C6 w6 hS ⟨col6, hC6⟩ hcm hf6 rfl hD6 hsz6
    have hr6 := (hcm.cell (a := ⟨w.heap.size, 0, none⟩) (by show w.heap.size < _; omega) (fun h => by have := HL.out; rcases h with h | h <;> (have h : w.heap.size = _ := h; omega))).trans hr5
    have fr6 := (hcm.frozen (a := ⟨w.heap.size, 0, none⟩) (by show w.heap.size < _; omega) (fun h => by have := HL.out; rcases h with h | h <;> (have h : w.heap.size = _ := h; omega))).trans fr5
    have HB6 := Lib.hid (HB5.out.trans (hcm.below (n := w.heap.size) (by omega) (fun k h => by have := HL.out; rcases h with h | h <;> omega)))
    have HC6 : Hid (∀ k, C6 k → w.heap.size + 1 ≤ k ∧ k ≠ w5.heap.size) := Lib.hid (fun k h => by
      have := HL.out
      have := HZ4.out
      rcases hf6 k h with (h2 | h2) | h2 <;> omega)
    have HCB6 := Lib.hid hC6
    have hz6 : w5.heap.size < w6.heap.size := by omega
    have HXS : Hid (xs = offs 0 Ps) := Lib.hid (by rw [hS]; exact things_pieces S Ps (by omega) TP.out DS.out)
    have HD6 := Lib.hid hD6
    have COL6 := Lib.hid col6
    clear hcm hf6 hC6 hsz6 hS hr5 fr5 col5 HB5 hD6 col6 hbs0 hbs1 hbs5
    gi_wp2_with fail
    refine (callsIn_wide.2 (things_call T w6)).mono ?_
    rintro e w7 ⟨bs7, rfl, hbs0, hbs1, hb7⟩
    have col7 := COL6.out.same (Same.below hb7 HCB6.out)
    have HB7 := Lib.hid (HB6.out.trans (hb7.mono HB6.out.size))
    have hr7 := (hb7.cell (p := ⟨w.heap.size, 0, none⟩) (by show w.heap.size < _; omega)).trans hr6
    have fr7 := (hb7.frozen (p := ⟨w.heap.size, 0, none⟩) (by show w.heap.size < _; omega)).trans fr6
    have hz7 : w6.heap.size ≤ w7.heap.size := hb7.size
    have hbs7 : bs7 < w7.heap.size := World.block_lt_of_cell? _ _ hbs1
    have HD7 := Lib.hid ((hb7.block w5.heap.size hz6).trans HD6.out)
    clear hb7 hr6 fr6 HD6 HB6 COL6
    gi_wp2_with fail
    refine wpIn_rangeC (F := Fence.wide) rfl (by omega) (gf := 27) (lb := #[.pointer (some ⟨bs7, 0, none⟩)]) rfl trivial (enters_of Tryd.func27 (by kernel_rfl) rfl)
      (things_seq T (by omega) bs7 _ (by omega) w7 hbs1) (Below.refl _ _) (fun _ => rfl) C6 (fun k hk hc => by subst hk; have := HCB6.out _ hc; omega) (fun k hk => by subst hk; exact hbs7) (fun k hc => by have := HCB6.out _ hc; omega)
      (fun (pre : List (Nat × ByteArray)) C W => Col W (w.heap.size + 1) L C (xs.map Prod.snd ++ pre.map Prod.snd) ∧ ∀ k, C k → k < W.heap.size) (fun _ _ _ _ => False) (fun pre C A B h hs => ⟨Col.same h.1 hs, fun k hk => Nat.lt_of_lt_of_le (h.2 k hk) hs.size⟩) (fun _ _ _ _ _ h _ => h) ⟨by rw [List.map_nil, List.append_nil]; exact col7, fun k hc => by have := HCB6.out _ hc; omega⟩ ?b1 ?assign2 ?body2 ?done2 ?stop2
    case assign2 =>
      intro l' x W K hK
      gi_wp2
      exact hK
    case stop2 => rintro D c pre C W _ h; exact h.elim
    case body2 =>
      rintro l' pre x C W ⟨⟨g, c, h1, h2, h3, h4, h5, h6⟩, hC⟩ hcm hf hlen
      have hxl : xs.length ≤ 20 := by rw [HXS.out, offs_len]; exact nP
      rw [List.length_append, List.length_map, List.length_map] at h1 h3
      have hlW : L < W.heap.size := hC L h4
      have b1 : xs.length + pre.length ≤ 7000 := by omega
      have bw : w.heap.size + 1 ≤ W.heap.size := by omega
      clear hcm hf hlen
      have H3 := Lib.hid h3
      have HC := Lib.hid hC
      clear h3 hC
      generalize hnn : xs.length + pre.length = nn at *
      have HNN := Lib.hid hnn
      clear hnn
      gi_wp2_with (gi_at_builtin; refine wpListIn_append_own_at _ rfl (.tmp 35) (.tmp 37) 51 rfl (w.heap.size + 1) 9 i0 (.string ⟨#[]⟩) 1 16 Tryd.underlying51 hi hz0 hz1 hz2 rfl (by decide) (.slice (some ⟨g, 0, none⟩) nn c) nn ((xs.map Prod.snd ++ pre.map Prod.snd).map Value.string) rfl (H3.out.alloc _) ⟨W.heap.size, 0, none⟩ 1 1 [.string x.2] rfl rfl ?c1 ?c2 ?c3 ?c4 ?c5 ?_)
      case c1 => exact cell_one_new _ _ _
      case c2 => simp [Value.oneCell']
      case c3 => unfold maxLen; omega
      case c4 => omega
      case c5 => simp; omega
      intro v' W2 hown1 hgrow _ hat
      obtain ⟨g', cap', rfl⟩ := ownsRow_succ hown1
      obtain ⟨k1, k2, k3, k4, k5, k6⟩ := col_after (C := C) (xs := xs.map Prod.snd ++ pre.map Prod.snd) (x := x.2) (by rw [List.length_append, List.length_map, List.length_map, HNN.out]) h1 h2 h4 h5 h6 HC.out (by simpa using hown1) hgrow hat
      have K3 := Lib.hid k3
      have K4 := Lib.hid k4
      have K5 := Lib.hid k5
      have K6 := Lib.hid k6
      clear hown1 hgrow hat k3 k4 k5 k6 h1 h2
      gi_wp2
      exact ⟨_, K3.out, K4.out, K5.out, by rw [List.map_append, ← List.append_assoc]; exact K6.out, K4.out⟩
    case done2 =>
      rintro D2 ys C8 w8 hS2 ⟨col8', hC8⟩ hcm hf8 rfl hD8 hsz8
      have hxl : xs.map Prod.snd = Ps.map ba := by rw [HXS.out, offs_snd]
      have hyl : ys.map Prod.snd = Qs.map ba := by rw [hS2, things_pieces T Qs (by omega) TQ.out DT.out, offs_snd]
      obtain ⟨R, hR⟩ : ∃ R, R = Ps ++ Qs := ⟨_, rfl⟩
      have col8 : Col w8 (w.heap.size + 1) L C8 (R.map ba) := by
        rw [hxl, hyl, ← List.map_append, ← hR] at col8'
        exact col8'
      have hRl : R.length ≤ 40 := by rw [hR, List.length_append]; omega
      have hRf : R.flatten.length ≤ 12080 := by rw [hR, List.flatten_append, List.length_append]; omega
      have TR := Lib.hid (show ∀ P ∈ R, Takes P by
        rw [hR]; intro P hP
        rcases List.mem_append.1 hP with h | h
        · exact TP.out P h
        · exact TQ.out P h)
      have DST := Lib.hid (show (S ++ T).data.toList = R.flatten by rw [ByteArray.data_append, Array.toList_append, DS.out, DT.out, hR, List.flatten_append])
      have zST : (S ++ T).size ≤ 13000 := by rw [ByteArray.size_append]; omega
      have nor : ¬ C6 w.heap.size := fun h => by have := HC6.out _ h; omega
      have noD : ¬ C6 w5.heap.size := fun h => (HC6.out _ h).2 rfl
      have hr8 := (hcm.cell (a := ⟨w.heap.size, 0, none⟩) (by show w.heap.size < _; omega) nor).trans hr7
      have fr8 := (hcm.frozen (a := ⟨w.heap.size, 0, none⟩) (by show w.heap.size < _; omega) nor).trans fr7
      have hD1 := (hcm.block w5.heap.size (by omega) noD).trans HD7.out
      have HB8 := Lib.hid (HB7.out.trans (hcm.below (n := w.heap.size) (by omega) (fun k h => by have := (HC6.out k h).1; omega)))
      have HC8 : Hid (∀ k, C8 k → w.heap.size + 1 ≤ k ∧ k ≠ w5.heap.size ∧ k ≠ w7.heap.size) := Lib.hid (fun k h => by
        rcases hf8 k h with h2 | h2
        · have h3 := HC6.out k h2
          have h4 := HCB6.out k h2
          exact ⟨h3.1, h3.2, by omega⟩
        · omega)
      have HCB8 := Lib.hid hC8
      have HD1 := Lib.hid hD1
      have HD2 := Lib.hid hD8
      have hz8 : w7.heap.size < w8.heap.size := by omega
      have COL8 := Lib.hid col8
      clear hR hcm hf8 hC8 hsz8 hS2 hr7 fr7 col7 HB7 hD8 hD1 hbs0 hbs1 hbs7 col8' hxl hyl nor noD col8 HXS TP TQ HD7 HCB6 HC6
      gi_wp2_with fail
      obtain ⟨W9, hW9⟩ : ∃ W9, W9 = (w8.alloc (.cells #[.int .i64 0] 3)).alloc (.cells #[.string ⟨#[]⟩] 9) := ⟨_, rfl⟩
      have hb9 : Below w8.heap.size w8 W9 := by rw [hW9]; exact ((Below.refl _ _).alloc (Nat.le_refl _) _).alloc (by simp) _
      have hz9 : W9.heap.size = w8.heap.size + 2 := by rw [hW9]; simp
      have cn9 : W9.cell? ⟨w8.heap.size, 0, none⟩ = some (.int .i64 0) := by rw [hW9]; simp [go_sem]
      have fn9 : W9.frozen? ⟨w8.heap.size, 0, none⟩ = false := by rw [hW9]; simp [go_sem]
      have ca9 : W9.cell? ⟨w8.heap.size + 1, 0, none⟩ = some (.string ⟨#[]⟩) := by rw [hW9]; simp [go_sem]
      have fa9 : W9.frozen? ⟨w8.heap.size + 1, 0, none⟩ = false := by rw [hW9]; simp [go_sem]
      rw [← hW9]
      have HZ9 := Lib.hid hz9
      clear hW9
      refine (callsIn_wide.2 (things_call (S ++ T) W9)).mono ?_
      rintro e w10 ⟨bs10, rfl, hbs0, hbs1, hb10⟩
      have h89 : w8.heap.size ≤ W9.heap.size := by omega
      have hbb : Below w8.heap.size w8 w10 := hb9.trans (hb10.mono h89)
      have col10 := COL8.out.same (Same.below hbb HCB8.out)
      have HB10 := Lib.hid (HB8.out.trans (hbb.mono HB8.out.size))
      have hr10 := (hbb.cell (p := ⟨w.heap.size, 0, none⟩) (by show w.heap.size < _; omega)).trans hr8
      have fr10 := (hbb.frozen (p := ⟨w.heap.size, 0, none⟩) (by show w.heap.size < _; omega)).trans fr8
      have cn10 := (hb10.cell (p := ⟨w8.heap.size, 0, none⟩) (by show w8.heap.size < _; omega)).trans cn9
      have fn10 := (hb10.frozen (p := ⟨w8.heap.size, 0, none⟩) (by show w8.heap.size < _; omega)).trans fn9
      have ca10 := (hb10.cell (p := ⟨w8.heap.size + 1, 0, none⟩) (by show w8.heap.size + 1 < _; omega)).trans ca9
      have fa10 := (hb10.frozen (p := ⟨w8.heap.size + 1, 0, none⟩) (by show w8.heap.size + 1 < _; omega)).trans fa9
      have HD1b := Lib.hid ((hbb.block w5.heap.size (by omega)).trans HD1.out)
      have HD2b := Lib.hid ((hbb.block w7.heap.size (by omega)).trans HD2.out)
      have hz10 : W9.heap.size ≤ w10.heap.size := hb10.size
      have hbs10 : bs10 < w10.heap.size := World.block_lt_of_cell? _ _ hbs1
      clear hb9 hb10 hbb hr8 fr8 cn9 fn9 ca9 fa9 HB8 HD1 HD2 COL8
      gi_wp2_with fail
      refine wpIn_rangeC (F := Fence.wide) rfl (by omega) (gf := 27) (lb := #[.pointer (some ⟨bs10, 0, none⟩)]) rfl trivial (enters_of Tryd.func27 (by kernel_rfl) rfl)
        (things_seq (S ++ T) (by omega) bs10 _ (by omega) w10 hbs1) (Below.refl _ _) (fun _ => rfl) (fun k => C8 k ∨ k = w8.heap.size ∨ k = w8.heap.size + 1 ∨ k = w.heap.size)
        (fun k hk hc => by
          subst hk
          rcases hc with h | h | h | h
          · have := HCB8.out _ h; omega
          · omega
          · omega
          · omega) (fun k hk => by subst hk; exact hbs10)
        (fun k hc => by
          rcases hc with h | h | h | h
          · have := HCB8.out _ h; omega
          · omega
          · omega
          · omega)
        (fun (pre : List (Nat × ByteArray)) C W => (∃ n, n ≤ R.length ∧ pre = (offs 0 R).take n ∧ W.cell? ⟨w8.heap.size, 0, none⟩ = some (.int .i64 n) ∧ W.cell? ⟨w8.heap.size + 1, 0, none⟩ = some (.string (ba (R.take n).flatten))) ∧ W.frozen? ⟨w8.heap.size, 0, none⟩ = false ∧ W.frozen? ⟨w8.heap.size + 1, 0, none⟩ = false ∧
          W.cell? ⟨w.heap.size, 0, none⟩ = some (.bool false) ∧ W.frozen? ⟨w.heap.size, 0, none⟩ = false ∧ Col W (w.heap.size + 1) L C8 (R.map ba) ∧ C = (fun k => C8 k ∨ k = w8.heap.size ∨ k = w8.heap.size + 1 ∨ k = w.heap.size))
        (fun _ pre _ _ => ¬ pre <+: offs 0 R) ?hI (fun _ _ _ _ _ h _ => h) ⟨⟨0, by omega, rfl, cn10, ca10⟩, fn10, fa10, hr10, fr10, col10, rfl⟩ ?d1 ?assign3 ?body3 ?done3 ?stop3
      case hI =>
        rintro pre C A B ⟨⟨n, h1, h2, h3, h4⟩, h5, h6, h7, h8, h9, rfl⟩ hs
        exact ⟨⟨n, h1, h2, (hs.cell (p := ⟨w8.heap.size, 0, none⟩) (Or.inr (Or.inl rfl))).trans h3, (hs.cell (p := ⟨w8.heap.size + 1, 0, none⟩) (Or.inr (Or.inr (Or.inl rfl)))).trans h4⟩,
          (hs.frozen (p := ⟨w8.heap.size, 0, none⟩) (Or.inr (Or.inl rfl))).trans h5, (hs.frozen (p := ⟨w8.heap.size + 1, 0, none⟩) (Or.inr (Or.inr (Or.inl rfl)))).trans h6,
          (hs.cell (p := ⟨w.heap.size, 0, none⟩) (Or.inr (Or.inr (Or.inr rfl)))).trans h7, (hs.frozen (p := ⟨w.heap.size, 0, none⟩) (Or.inr (Or.inr (Or.inr rfl)))).trans h8,
          h9.same ⟨hs.os, hs.tape, hs.output, hs.size, fun k hk => hs.block k (Or.inl hk)⟩, rfl⟩
      case assign3 =>
        intro l' x W K hK
        gi_wp2
        exact hK
      case stop3 =>
        rintro D c pre C W hpre h
        exact absurd (by rw [← things_pieces (S ++ T) R (by omega) TR.out DST.out]; exact hpre) h
      case body3 =>
        rintro l' pre ⟨xa, xt⟩ C W ⟨⟨n, hnR, rfl, cn, ca⟩, fn, fa, cr, fr, hcol, rfl⟩ hcm hf hlen
        have HCOL := Lib.hid hcol
        obtain ⟨g, c, h1, h2, h3, h4, h5, h6⟩ := hcol
        have hEl : (offs 0 R).length = R.length := offs_len R 0
        have hWz : w10.heap.size ≤ W.heap.size := hcm.size
        have hCb : ∀ k, (C8 k ∨ k = w8.heap.size ∨ k = w8.heap.size + 1 ∨ k = w.heap.size) → k < W.heap.size := fun k hc => by
          rcases hc with h | h | h | h
          · have := HCB8.out _ h; omega
          · omega
          · omega
          · omega
        have HCb := Lib.hid hCb
        rw [List.length_map] at h1 h3
        clear hcm hf hlen hCb
        have HRET : ∀ (v : Value), ¬ (offs 0 R).take n ++ [(xa, xt)] <+: offs 0 R → ownPostC (fun (pre : List (Nat × ByteArray)) C W => (∃ n, n ≤ R.length ∧ pre = (offs 0 R).take n ∧ W.cell? ⟨w8.heap.size, 0, none⟩ = some (.int .i64 n) ∧ W.cell? ⟨w8.heap.size + 1, 0, none⟩ = some (.string (ba (R.take n).flatten))) ∧ W.frozen? ⟨w8.heap.size, 0, none⟩ = false ∧ W.frozen? ⟨w8.heap.size + 1, 0, none⟩ = false ∧
          W.cell? ⟨w.heap.size, 0, none⟩ = some (.bool false) ∧ W.frozen? ⟨w.heap.size, 0, none⟩ = false ∧ Col W (w.heap.size + 1) L C8 (R.map ba) ∧ C = (fun k => C8 k ∨ k = w8.heap.size ∨ k = w8.heap.size + 1 ∨ k = w.heap.size)) (fun _ pre _ _ => ¬ pre <+: offs 0 R) (fun k => C8 k ∨ k = w8.heap.size ∨ k = w8.heap.size + 1 ∨ k = w.heap.size) ((offs 0 R).take n ++ [(xa, xt)]) W .ret { tmps := #[], defers := [] } (W.setCell ⟨w.heap.size, 0, none⟩ v) := fun v h =>
          ⟨_, fun k hk => Or.inl hk, fun k hk => by rw [World.size_setCell]; exact HCb.out k hk, ⟨rfl, rfl, rfl, by rw [World.size_setCell]; exact Nat.le_refl _, fun k _ hn => Below.heap_setCell W ⟨w.heap.size, 0, none⟩ v k (fun e => hn (Or.inr (Or.inr (Or.inr e))))⟩, h⟩
        have HRET := Lib.hid HRET
        by_cases hn : n < R.length
        · have hg0 := offs_get R 0 n hn
          rw [Nat.zero_add] at hg0
          have hcell : W.cell? ⟨g, n, none⟩ = some (.string (ba R[n])) := by
            have e := h3.cellAt n (by simp; omega)
            rw [e]
            simp [hn]
          have hpz : (ba R[n]).size ≤ 12080 := by
            have e1 := piece_le R n hn
            show R[n].length ≤ _; omega
          have hnext := take_flat_succ R n hn
          have hAz : (ba (R.take n).flatten).size ≤ 12080 := by
            have e1 := take_flat_le R n
            show (R.take n).flatten.length ≤ _; omega
          have hAD : ba (R.take n).flatten ++ ba R[n] = ba (R.take (n + 1)).flatten := WideShapes.bytes_inj (by rw [ByteArray.data_append, Array.toList_append, ba_data, ba_data, ba_data, hnext])
          have hAS : (R.take n).flatten.length = (ba (R.take n).flatten).size := rfl
          rw [hAS] at hg0
          have HG0 := Lib.hid hg0
          have HAD := Lib.hid hAD
          clear hnext hAS hg0 hAD h3
          generalize ba R[n] = pn at *
          generalize ba (R.take n).flatten = AL at *
          have i1 : (0 : Int) ≤ (n : Int) := by omega
          have i2 : (n : Int) < (R.length : Int) := by omega
          have nle : decide (R.length ≤ n) = false := by simp; omega
          by_cases hx : pn = xt
          · subst hx
            by_cases hat : xa = AL.size
            · subst hat
              have hE : (offs 0 R).take (n + 1) = (offs 0 R).take n ++ [(AL.size, pn)] := take_next HG0.out
              have HE := Lib.hid hE
              clear hE hEl HRET
              gi_wp2
              have o1 : ∀ k, k ≠ w8.heap.size → k ≠ w8.heap.size + 1 → ((W.setCell ⟨w8.heap.size + 1, 0, none⟩ (.string (AL ++ pn))).setCell ⟨w8.heap.size, 0, none⟩ (.int .i64 ((n : Int) + 1))).heap[k]? = W.heap[k]? := fun k e1 e2 =>
                (Below.heap_setCell _ ⟨w8.heap.size, 0, none⟩ _ k e1).trans (Below.heap_setCell W ⟨w8.heap.size + 1, 0, none⟩ _ k e2)
              have o2 : (W.setCell ⟨w8.heap.size + 1, 0, none⟩ (.string (AL ++ pn))).heap[w8.heap.size]? = W.heap[w8.heap.size]? := Below.heap_setCell W ⟨w8.heap.size + 1, 0, none⟩ _ _ (by show w8.heap.size ≠ w8.heap.size + 1; omega)
              have o3 : ((W.setCell ⟨w8.heap.size + 1, 0, none⟩ (.string (AL ++ pn))).setCell ⟨w8.heap.size, 0, none⟩ (.int .i64 ((n : Int) + 1))).heap[w8.heap.size + 1]? = (W.setCell ⟨w8.heap.size + 1, 0, none⟩ (.string (AL ++ pn))).heap[w8.heap.size + 1]? := Below.heap_setCell _ ⟨w8.heap.size, 0, none⟩ _ _ (by show w8.heap.size + 1 ≠ w8.heap.size; omega)
              refine ⟨_, fun k hk => Or.inl hk, fun k hk => ?_, ⟨rfl, rfl, rfl, ?_, fun k _ hk => o1 k (fun e => hk (Or.inr (Or.inl e))) (fun e => hk (Or.inr (Or.inr (Or.inl e))))⟩, ⟨n + 1, by omega, HE.out.symm, ?_, ?_⟩, ?_, ?_, ?_, ?_, ?_, rfl⟩
              · rw [World.size_setCell, World.size_setCell]; exact HCb.out k hk
              · rw [World.size_setCell, World.size_setCell]; exact Nat.le_refl _
              · rw [show ((n + 1 : Nat) : Int) = (n : Int) + 1 from rfl]
                exact World.cell?_setCell_same' _ _ _ (by rw [World.cell?_of_block (w := W) (a := ⟨w8.heap.size, 0, none⟩) o2, cn]; rfl)
              · rw [← HAD.out, World.cell?_of_block (a := ⟨w8.heap.size + 1, 0, none⟩) o3]
                exact World.cell?_setCell_same' _ _ _ (by rw [ca]; rfl)
              · rw [World.frozen?_setCell, World.frozen?_setCell]; exact fn
              · rw [World.frozen?_setCell, World.frozen?_setCell]; exact fa
              · exact (World.cell?_of_block (w := W) (a := ⟨w.heap.size, 0, none⟩) (o1 w.heap.size (by omega) (by omega))).trans cr
              · rw [World.frozen?_setCell, World.frozen?_setCell]; exact fr
              · exact HCOL.out.same ⟨rfl, rfl, rfl, by rw [World.size_setCell, World.size_setCell]; exact Nat.le_refl _, fun k hk => o1 k (fun e => by have := HCB8.out k hk; omega) (fun e => by have := HCB8.out k hk; omega)⟩
            · have q1 : ((xa : Int) == (AL.size : Int)) = false := by simp; omega
              have q2 : ((xa : Int) != (AL.size : Int)) = true := by simp; omega
              have q3 : decide ((xa : Int) = (AL.size : Int)) = false := by simp; omega
              have q4 : (xa == AL.size) = false := by simp; omega
              have q5 : (xa != AL.size) = true := by simp; omega
              have q6 : decide (xa = AL.size) = false := by simp; omega
              have HNP := Lib.hid (take_not (E := offs 0 R) (n := n) (x := (xa, pn)) (by omega) (by rw [HG0.out]; exact fun e => hat (by injection e with e; injection e with e _; exact e.symm)))
              have HH := Lib.hid (HRET.out (.bool false) HNP.out)
              clear hEl hat
              gi_wp2
              exact HH.out
          · have w1' := bytes_ne hx
            have HNP := Lib.hid (take_not (E := offs 0 R) (n := n) (x := (xa, xt)) (by omega) (by rw [HG0.out]; exact fun e => hx (by injection e with e; injection e with _ e)))
            have HH := Lib.hid (HRET.out (.bool false) HNP.out)
            clear hEl hx
            gi_wp2
            exact HH.out
        · obtain rfl : n = R.length := by omega
          have HNP := Lib.hid (take_not (E := offs 0 R) (n := R.length) (x := (xa, xt)) (by omega) (by rw [List.getElem?_eq_none (by omega)]; simp))
          have HH := Lib.hid (HRET.out (.bool false) HNP.out)
          clear h3 hEl hnR hn
          gi_wp2
          exact HH.out
      case done3 =>
        rintro D3 zs C w11 hS3 ⟨⟨n, hnR, hzs, cn, ca⟩, fn, fa, cr, fr, hcol, rfl⟩ hcm hf11 rfl hD11 hsz11
        have hn : n = R.length := by
          have e1 := things_pieces (S ++ T) R (by omega) TR.out DST.out
          have e2 := congrArg List.length (hzs.symm.trans (hS3.trans e1))
          rw [List.length_take, offs_len] at e2
          omega
        subst hn
        have hall : ba (R.take R.length).flatten = S ++ T := WideShapes.bytes_inj (by rw [List.take_length, ba_data, DST.out])
        rw [hall] at ca
        have noD1 : ¬ (C8 w5.heap.size ∨ w5.heap.size = w8.heap.size ∨ w5.heap.size = w8.heap.size + 1 ∨ w5.heap.size = w.heap.size) := fun h => by
          rcases h with h | h | h | h
          · exact (HC8.out _ h).2.1 rfl
          · omega
          · omega
          · omega
        have noD2 : ¬ (C8 w7.heap.size ∨ w7.heap.size = w8.heap.size ∨ w7.heap.size = w8.heap.size + 1 ∨ w7.heap.size = w.heap.size) := fun h => by
          rcases h with h | h | h | h
          · exact (HC8.out _ h).2.2 rfl
          · omega
          · omega
          · omega
        have HD1c := (hcm.block w5.heap.size (by omega) noD1).trans HD1b.out
        have HD2c := (hcm.block w7.heap.size (by omega) noD2).trans HD2b.out
        have HB11 := Lib.hid (HB10.out.trans (hcm.below (n := w.heap.size) (by omega) (fun k h => by
          rcases h with h | h | h | h
          · have := (HC8.out k h).1; omega
          · omega
          · omega
          · omega)))
        obtain ⟨g, c, h1, h2, h3, h4, h5, h6⟩ := hcol
        rw [List.length_map] at h1
        have h4' := HCB8.out _ h4
        clear hzs hall noD1 noD2 hcm hf11 h2 h3 h5 h6 fn fa hS3
        gi_wp2_with fail
        refine (callsIn_wide.2 (awake_any _ (tab_at HTAB.out HB11.out HB11.out.size))).mono ?_
        rintro e w12 ⟨rfl, hb12⟩
        have HB12 := Lib.hid (HB11.out.trans (hb12.mono HB11.out.size))
        have cn12 := (hb12.cell (p := ⟨w8.heap.size, 0, none⟩) (by show w8.heap.size < _; omega)).trans cn
        have ca12 := (hb12.cell (p := ⟨w8.heap.size + 1, 0, none⟩) (by show w8.heap.size + 1 < _; omega)).trans ca
        have cl12 := (hb12.cell (p := ⟨L, 0, none⟩) (by show L < _; omega)).trans h1
        have cr12 := (hb12.cell (p := ⟨w.heap.size, 0, none⟩) (by show w.heap.size < _; omega)).trans cr
        have fr12 := (hb12.frozen (p := ⟨w.heap.size, 0, none⟩) (by show w.heap.size < _; omega)).trans fr
        have E1 := Lib.hid ((hb12.block w5.heap.size (by omega)).trans HD1c)
        have E2 := Lib.hid ((hb12.block w7.heap.size (by omega)).trans HD2c)
        have E3 := Lib.hid ((hb12.block w10.heap.size (by omega)).trans hD11)
        have hz12 : w11.heap.size ≤ w12.heap.size := hb12.size
        clear hb12 cn ca h1 cr fr HD1c HD2c hD11 HB11
        gi_wp2
        obtain ⟨Wz, hWz⟩ : ∃ Wz, Wz = w12.setCell ⟨w.heap.size, 0, none⟩ (.bool true) := ⟨_, rfl⟩
        have eo : ∀ k, k ≠ w.heap.size → Wz.heap[k]? = w12.heap[k]? := fun k h => by rw [hWz]; exact Below.heap_setCell w12 ⟨w.heap.size, 0, none⟩ _ k h
        have hsz : Wz.heap.size = w12.heap.size := by rw [hWz, World.size_setCell]
        have crz : Wz.cell? ⟨w.heap.size, 0, none⟩ = some (.bool true) := by rw [hWz]; exact World.cell?_setCell_same' _ _ _ (by rw [cr12]; rfl)
        have hbz : Below w.heap.size w Wz := by rw [hWz]; exact HB12.out.setCell (p := ⟨w.heap.size, 0, none⟩) (Nat.le_refl _) _
        rw [← hWz]
        have F3 : Wz.heap[w10.heap.size]? = some (.deferred (some [])) := (eo _ (by omega)).trans E3.out
        have F2 : (Wz.putObj w10.heap.size (.deferred none)).heap[w7.heap.size]? = some (.deferred (some [])) := (World.putObj_heap_other (by omega)).trans ((eo _ (by omega)).trans E2.out)
        have F1 : ((Wz.putObj w10.heap.size (.deferred none)).putObj w7.heap.size (.deferred none)).heap[w5.heap.size]? = some (.deferred (some [])) := (World.putObj_heap_other (by omega)).trans ((World.putObj_heap_other (by omega)).trans ((eo _ (by omega)).trans E1.out))
        have cf : (((Wz.putObj w10.heap.size (.deferred none)).putObj w7.heap.size (.deferred none)).putObj w5.heap.size (.deferred none)).cell? ⟨w.heap.size, 0, none⟩ = some (.bool true) := by
          rw [← crz]
          exact World.cell?_of_block (a := ⟨w.heap.size, 0, none⟩) ((World.putObj_heap_other (by show w.heap.size ≠ _; omega)).trans ((World.putObj_heap_other (by show w.heap.size ≠ _; omega)).trans (World.putObj_heap_other (by show w.heap.size ≠ _; omega))))
        have bf : Below w.heap.size w (((Wz.putObj w10.heap.size (.deferred none)).putObj w7.heap.size (.deferred none)).putObj w5.heap.size (.deferred none)) :=
          ⟨hbz.os, hbz.tape, hbz.output, by simp only [World.putObj_size]; exact hbz.size, fun k hk => (World.putObj_heap_other (by omega)).trans ((World.putObj_heap_other (by omega)).trans ((World.putObj_heap_other (by omega)).trans (hbz.block k hk)))⟩
        clear hWz eo cr12 fr12
        refine ⟨by simp, .inl ⟨_, _, rfl, run_takeDeferred F3, ?_⟩⟩
        refine ⟨by simp, .inl ⟨_, _, rfl, run_takeDeferred F2, ?_⟩⟩
        refine ⟨by simp, .inl ⟨_, _, rfl, run_takeDeferred F1, ?_⟩⟩
        refine ⟨.bool true, ?_, rfl, bf⟩
        simp [results, Tryd.results5, go_sem, cf]
end Go.Proofs.YtjcnlkbmigemhaaDoor
