/-
  CONTRACTS of layer 16's records: Count, Text, sized, clone, lay's parts; a law for copy of values of three cells.
-/
import Derived.Test.YtllbnbnpcogckaaGreatDoorInW4
namespace Go.Proofs.YtllbnbnpcogckaaGreatDoor
open Go.RowKit

theorem Rec.form {w : World} {b : Nat} {s : ByteArray} {l : List Ce} {v : Value} (h : Rec w b s l v) : ∃ p c, v = .slice p l.length c := by
  rcases h.row.2 with ⟨rfl, h0⟩ | ⟨g, cap, cur, rfl, _⟩
  · exact ⟨none, 0, by rw [h0]⟩
  · exact ⟨_, _, rfl⟩
theorem count_any {w : World} {b : Nat} {s : ByteArray} {l : List Ce} {v : Value} (h : Rec w b s l v) :
    Calls Tryz.prog 14 #[.pointer (some ⟨b, 0, none⟩)] w fun e w' => e = .returned (.int .i64 (l.length : Int)) ∧ Below w.heap.size w w' := by
  obtain ⟨p, c, rfl⟩ := h.form
  have hc1 : w.cell? ⟨b, 1, none⟩ = some (.slice p l.length c) := block_cell h.blk
  clear h
  go_enter Tryz.func14, Tryz.ntmps14
  go_wp2
  go_ret
  exact ⟨rfl, Below.refl _ _⟩
theorem rtext_any {w : World} {b : Nat} {s : ByteArray} {l : List Ce} {v : Value} (h : Rec w b s l v) (hs : s.size ≤ 1000000) :
    Calls Tryz.prog 21 #[.pointer (some ⟨b, 0, none⟩)] w fun e w' => e = .returned (.string s) ∧ Below w.heap.size w w' := by
  have hc0 : w.cell? ⟨b, 0, none⟩ = some (.string s) := block_cell h.blk
  have CL := Lib.hid fun W => clone_any s W (by omega)
  clear h
  go_enter Tryz.func21, Tryz.ntmps21
  go_wp2_with fail
  refine (CL.out _).mono ?_
  rintro e w3 ⟨rfl, hb3⟩
  go_wp2_with fail
  go_ret
  exact ⟨rfl, hb3⟩
set_option maxHeartbeats 1000000 in
theorem iclone_any (k n : Int) (s : ByteArray) (w : World) (hs : s.size ≤ 1000000) :
    Calls Tryz.prog 30 #[cv k n s] w fun e w' => e = .returned (cv k n s) ∧ Below w.heap.size w w' := by
  have CL := Lib.hid fun W => clone_any s W (by omega)
  unfold cv
  go_enter Tryz.func30, Tryz.ntmps30
  go_wp2_with fail
  refine (CL.out _).mono ?_
  rintro e w1 ⟨rfl, hb1⟩
  obtain ⟨hc, hf⟩ := bcell hb1
  have hb2 := below_new (below_new hb1)
  have HB := Lib.hid hb2
  have d0 : w1.cell? ⟨w.heap.size, 0, none⟩ = some (.int .i64 k) := (hc w.heap.size 0 (by simp; omega)).trans (by simp [go_sem])
  have d1 : w1.cell? ⟨w.heap.size, 1, none⟩ = some (.int .i64 n) := (hc w.heap.size 1 (by simp; omega)).trans (by simp [go_sem])
  have d2 : w1.cell? ⟨w.heap.size, 2, none⟩ = some (.string s) := (hc w.heap.size 2 (by simp; omega)).trans (by simp [go_sem])
  have f2 : w1.frozen? ⟨w.heap.size, 2, none⟩ = false := (hf w.heap.size 2 (by simp; omega)).trans (by simp [go_sem])
  have e0 : w1.cell? ⟨w.heap.size + 1, 0, none⟩ = some (.int .i64 0) := (hc (w.heap.size + 1) 0 (by simp)).trans (by simp [go_sem])
  have e1 : w1.cell? ⟨w.heap.size + 1, 1, none⟩ = some (.int .i64 0) := (hc (w.heap.size + 1) 1 (by simp)).trans (by simp [go_sem])
  have e2 : w1.cell? ⟨w.heap.size + 1, 2, none⟩ = some (.string ⟨#[]⟩) := (hc (w.heap.size + 1) 2 (by simp)).trans (by simp [go_sem])
  have g0 : w1.frozen? ⟨w.heap.size + 1, 0, none⟩ = false := (hf (w.heap.size + 1) 0 (by simp)).trans (by simp [go_sem])
  have g1 : w1.frozen? ⟨w.heap.size + 1, 1, none⟩ = false := (hf (w.heap.size + 1) 1 (by simp)).trans (by simp [go_sem])
  have g2 : w1.frozen? ⟨w.heap.size + 1, 2, none⟩ = false := (hf (w.heap.size + 1) 2 (by simp)).trans (by simp [go_sem])
  have q0 := World.cell?_setCell_same w1 ⟨w.heap.size, 2, none⟩ (.string s) d2
  have p0 : ∀ (u : World) (x y z a0 a1 a2 : Value) (b : Nat), u.cell? ⟨b, 0, none⟩ = some a0 → u.cell? ⟨b, 1, none⟩ = some a1 → u.cell? ⟨b, 2, none⟩ = some a2 → (((u.setCell ⟨b, 0, none⟩ x).setCell ⟨b, 1, none⟩ y).setCell ⟨b, 2, none⟩ z).cell? ⟨b, 0, none⟩ = some x ∧ (((u.setCell ⟨b, 0, none⟩ x).setCell ⟨b, 1, none⟩ y).setCell ⟨b, 2, none⟩ z).cell? ⟨b, 1, none⟩ = some y ∧ (((u.setCell ⟨b, 0, none⟩ x).setCell ⟨b, 1, none⟩ y).setCell ⟨b, 2, none⟩ z).cell? ⟨b, 2, none⟩ = some z := by
    intro u x y z a0 a1 a2 b h0 h1 h2
    simp [go_sem, h0, h1, h2]
  obtain ⟨r0, r1, r2⟩ := p0 (w1.setCell ⟨w.heap.size, 2, none⟩ (.string s)) (.int .i64 k) (.int .i64 n) (.string s) _ _ _ (w.heap.size + 1) (by simpa [go_sem] using e0) (by simpa [go_sem] using e1) (by simpa [go_sem] using e2)
  clear hb1 hb2 hc hf p0
  go_wp2_with fail
  refine bodyPost_ret (v := cv k n s) ?_ rfl ⟨rfl, ?_⟩
  · simp [results, Tryz.results30, go_sem, cv, r0, r1, r2]
  · exact (((HB.out.setCell (p := ⟨w.heap.size, 2, none⟩) (Nat.le_refl _) _).setCell (p := ⟨w.heap.size + 1, 0, none⟩) (by simp) _).setCell (p := ⟨w.heap.size + 1, 1, none⟩) (by simp) _).setCell (p := ⟨w.heap.size + 1, 2, none⟩) (by simp) _
theorem run_copy3 (w : World) (dT sT ty elem : TypeId) (g o dLen dCap : Nat) (a : Addr) (sLen sCap : Nat) (cur : Array Value) (t : TypeId) (cs : List Value)
    (hu : Tryz.prog.underlying dT = some (.slice elem)) (hs : (Tryz.prog.info? elem).map (·.size) = some 3)
    (hg : w.heap[g]? = some (.cells cur t (0, 0))) (hn : cs.length = Nat.min sLen dLen * 3)
    (hsrc : ∀ j v, cs[j]? = some v → w.cell? (a.add j) = some v) (hfit : o + cs.length ≤ cur.size) (h1 : ∀ v ∈ cs, v.oneCell' = true) :
    (Builtin.copy_ #[dT, sT] ty #[.slice (some ⟨g, o, none⟩) dLen dCap, .slice (some a) sLen sCap]).run Tryz.prog w =
      .ok (goInt (Nat.min sLen dLen)) (w.setRow g (cur.toList.take o ++ cs ++ cur.toList.drop (o + cs.length)).toArray) := by
  have hl := run_loadCells_list (P := Tryz.prog) w a cs hsrc
  have hst := run_storeCells_at Tryz.prog g o t cs 0 cur w hg (by simpa using hfit) h1
  cases hq : Tryz.prog.info? elem with
  | none => simp [hq] at hs
  | some i =>
    have hi : i.size = 3 := by simpa [hq] using hs
    simp [Builtin.copy_, run_underlying hu, Builtin.lenOf, Builtin.firstCells, sizeOf, typeInfo, hq, hi, ← hn, hl, hst]
theorem vals_one (l : List Ce) : ∀ v ∈ ceRow l, v.oneCell' = true := by
  intro v hv
  unfold ceRow at hv
  obtain ⟨c, _, hc⟩ := List.mem_flatMap.1 hv
  simp [Ce.vals] at hc
  rcases hc with rfl | rfl | rfl <;> rfl
theorem below_setRow' {B g : Nat} {w0 w : World} (hb : Below B w0 w) (hBg : B ≤ g) (cs : Array Value) : Below B w0 (w.setRow g cs) :=
  hb.trans ⟨rfl, rfl, rfl, by simp [World.setRow], fun k hk => setRow_other w g k cs (by omega)⟩
theorem copy3_any {w : World} (dT sT ty : TypeId) (hu : Tryz.prog.underlying dT = some (.slice 42))
    (g n : Nat) (sp : Option Addr) (sCap : Nat) (S L : List Ce) (hn : L.length = n)
    (B : Nat) (hL : w.ownsRow B 42 3 (.slice (some ⟨g, 0, none⟩) n n) n (ceRow L)) (hS : w.ownsRow 0 42 3 (.slice sp S.length sCap) S.length (ceRow S))
    (hsz : (Tryz.prog.info? 42).map (·.size) = some 3) :
    ∃ w', (Builtin.copy_ #[dT, sT] ty #[.slice (some ⟨g, 0, none⟩) n n, .slice sp S.length sCap]).run Tryz.prog w = .ok (goInt (Nat.min S.length n)) w' ∧ w'.ownsRow B 42 3 (.slice (some ⟨g, 0, none⟩) n n) n (ceRow (S.take n ++ L.drop S.length)) ∧ Below B w w' := by
  obtain ⟨hx1, hx⟩ := hL
  rcases hx with ⟨hx, _⟩ | ⟨g', cap, cur, hx, hB, hg, hcap, hmax, hcs, htk⟩
  · cases hx
  injection hx with hx _ hx3
  injection hx with hx
  injection hx with hx
  subst hx hx3
  have hcur : cur.toList = ceRow L := by rw [← htk]; exact (List.take_of_length_le (by rw [Array.length_toList, hcs]; exact Nat.le_refl _)).symm
  have hcl : (ceRow (S.take n)).length = Nat.min S.length n * 3 := by rw [ceRow_len, List.length_take, show min n S.length = Nat.min S.length n from Nat.min_comm _ _]
  have hm : Nat.min S.length n ≤ n := Nat.min_le_right _ _
  have hnn : min n S.length + (L.length - S.length) = n := by omega
  have hrun : ∃ w', (Builtin.copy_ #[dT, sT] ty #[.slice (some ⟨g, 0, none⟩) n n, .slice sp S.length sCap]).run Tryz.prog w = .ok (goInt (Nat.min S.length n)) w' ∧ w'.heap[g]? = some (.cells (ceRow (S.take n ++ L.drop S.length)).toArray 42 (0, 0)) ∧ Below B w w' := by
    cases sp with
    | none =>
      rcases hS.2 with ⟨h1, h2⟩ | ⟨_, _, _, h1, _⟩
      · injection h1 with _ _ h3
        have hS0 : S = [] := List.eq_nil_of_length_eq_zero h2
        subst hS0 h3
        refine ⟨w, ?_, ?_, Below.refl _ _⟩
        · have := run_copy_nil (P := Tryz.prog) w dT sT ty 42 ⟨g, 0, none⟩ n n hu (by cases hq : Tryz.prog.info? 42 with
            | none => rw [hq] at hsz; cases hsz
            | some i => rfl)
          simpa using this
        · simp [← hcur, hg]
      · cases h1
    | some q =>
      obtain ⟨h1, h2⟩ : q = ⟨q.block, 0, none⟩ ∧ True := by
        rcases hS.2 with ⟨h1, _⟩ | ⟨_, _, _, h1, _⟩
        · cases h1
        · injection h1 with h1 _ _
          injection h1 with h1
          exact ⟨by rw [h1], trivial⟩
      have hr := run_copy3 w dT sT ty 42 g 0 n n q S.length sCap cur 42 (ceRow (S.take n)) hu hsz hg hcl (fun j v hj => by
        rw [h1]
        refine hS.cells (by rw [h1]; rfl) j v ?_
        have e : ceRow S = ceRow (S.take n) ++ ceRow (S.drop n) := by rw [← ceRow_append, List.take_append_drop]
        rw [e, List.getElem?_append_left (List.getElem?_eq_some_iff.1 hj).1]
        exact hj) (by rw [hcl, hcs]; have := Nat.mul_le_mul_right 3 hm; omega) (vals_one _)
      refine ⟨_, hr, ?_, below_setRow' (Below.refl _ _) hB _⟩
      have e : (cur.toList.take 0 ++ ceRow (S.take n) ++ cur.toList.drop (0 + (ceRow (S.take n)).length)) = ceRow (S.take n ++ L.drop S.length) := by
        rw [hcur, ceRow_append]
        have e1 : ceRow L = ceRow (L.take (Nat.min S.length n)) ++ ceRow (L.drop (Nat.min S.length n)) := by rw [← ceRow_append, List.take_append_drop]
        have e2 : (ceRow (L.take (Nat.min S.length n))).length = Nat.min S.length n * 3 := by rw [ceRow_len, List.length_take, show min (Nat.min S.length n) L.length = Nat.min S.length n from Nat.min_eq_left (by omega)]
        have e3 : L.drop (Nat.min S.length n) = L.drop S.length := by
          by_cases hle : S.length ≤ n
          · rw [show Nat.min S.length n = S.length from Nat.min_eq_left hle]
          · rw [show Nat.min S.length n = n from Nat.min_eq_right (by omega), List.drop_of_length_le (by omega : L.length ≤ n), List.drop_of_length_le (by omega : L.length ≤ S.length)]
        rw [e1, hcl, Nat.zero_add, List.drop_left' e2, e3]
        simp
      rw [e]
      exact setRow_heap w g cur _ 42 _ hg
  obtain ⟨w', hrun, hw1, hw2⟩ := hrun
  exact ⟨w', hrun, ⟨by rw [ceRow_len, List.length_append, List.length_take, List.length_drop, hnn], .inr ⟨g, n, _, rfl, hB, hw1, Nat.le_refl _, hmax, by rw [List.size_toArray, ceRow_len, List.length_append, List.length_take, List.length_drop, hnn], by
    rw [List.take_of_length_le]
    rw [List.toList_toArray, ceRow_len, List.length_append, List.length_take, List.length_drop, hnn]
    exact Nat.le_refl _⟩⟩, hw2⟩
end Go.Proofs.YtllbnbnpcogckaaGreatDoor
