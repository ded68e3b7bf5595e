/-
  CONTRACT of the document's own product of two rows of digits (scriberef05.times): digits that say the product; nothing that was there is written.
-/
import Derived.Test.YtknnaloepkonlaaDoorRef5W
import Derived.Test.YtknnaloepkonlaaDoorTimesM
import Derived.BigRegion
namespace Go.Proofs.YtknnaloepkonlaaDoor
open Go.RowKit

def rowI (o : List Nat) : Array Value := (o.map fun (k : Nat) => Value.int .i64 (k : Int)).toArray
theorem rowI_at (o : List Nat) (j : Nat) (h : j < o.length) : (rowI o)[j]? = some (.int .i64 (o[j] : Int)) := by simp [rowI, h]
theorem rowI_set (o : List Nat) (j k : Nat) : (rowI o).setIfInBounds j (.int .i64 (k : Int)) = rowI (o.set j k) := by simp [rowI, List.map_set]
def IAt (w : World) (B : Nat) (o : List Nat) : Prop := w.heap[B]? = some (.cells (rowI o) 3 (0, 0))
theorem IAt.cell {w : World} {B : Nat} {o : List Nat} (h : IAt w B o) (j : Nat) (hj : j < o.length) : w.cell? ⟨B, j, none⟩ = some (.int .i64 (o[j] : Int)) := by
  rw [cell_of_row w B j _ _ (0, 0) h]; exact rowI_at o j hj
theorem IAt.free {w : World} {B : Nat} {o : List Nat} (h : IAt w B o) (j : Nat) : w.frozen? ⟨B, j, none⟩ = false := frozen_of_row w B j _ _ h
theorem IAt.set {w : World} {B : Nat} {o : List Nat} (h : IAt w B o) (j k : Nat) : IAt (w.setCell ⟨B, j, none⟩ (.int .i64 (k : Int))) B (o.set j k) := by
  have := heap_setCell_same w B j _ _ (.int .i64 (k : Int)) h
  unfold IAt
  rw [this, rowI_set]
theorem IAt.drew {w : World} {B : Nat} {o : List Nat} (h : IAt w B o) : IAt w.drew B o := h
theorem made_zero (n : Nat) : madeCells #[.int .i64 0] n = rowI (List.replicate n 0) := by
  unfold madeCells rowI
  apply Array.ext
  · simp
  · intro i h1 h2
    simp at h1 h2 ⊢
    rw [show i % 1 = 0 by omega]; rfl
theorem A_int : (Tryd.prog.info? 3).map (fun i => (i.zero, i.size, i.bytes)) = some (some (.int .i64 0), 1, 8) := by kernel_rfl
theorem run_mk (n : Nat) (hn : n ≤ 1000) (W : World) : (Instr.makeSlice 55 (.int .i64 (n : Int)) (.int .i64 (n : Int))).run Tryd.prog W = .ok (.slice (some ⟨W.heap.size, 0, none⟩) n n) (W.alloc (.cells (rowI (List.replicate n 0)) 3)) := by
  obtain ⟨i0, hi, hz0, hz1, hz2⟩ := info_parts A_int
  have h := run_make (P := Tryd.prog) W 55 3 i0 (.int .i64 0) Tryd.underlying55 hi hz0 .i64 .i64 n n (by omega) (by omega) (by rw [hz2]; omega) (by omega)
  rw [hz1] at h
  simp only [Int.toNat_natCast, Nat.mul_one] at h
  rw [← made_zero]
  exact h
set_option maxHeartbeats 4000000 in
set_option maxRecDepth 100000 in
theorem rtimes_any (X Y : ByteArray) (w : World) (hX : 1 ≤ X.size ∧ X.size ≤ 20) (hY : 1 ≤ Y.size ∧ Y.size ≤ 20) (hdx : ∀ c ∈ X.data.toList, isD c = true) (hdy : ∀ c ∈ Y.data.toList, isD c = true) :
    Calls Tryd.prog 22 #[.string X, .string Y] w fun e w' => (∃ t : ByteArray, e = .returned (.string t) ∧ t.size = X.size + Y.size ∧ (∀ c ∈ t.data.toList, isD c = true) ∧ valD t.data.toList = valD X.data.toList * valD Y.data.toList) ∧ Below w.heap.size w w' := by
  have hgx : ∀ (j : Nat) (hj : j < X.size), 48 ≤ X[j].toNat ∧ X[j].toNat ≤ 57 := fun j hj => by
    have := hdx X[j] (List.mem_of_getElem? (at_list X j hj))
    unfold isD at this; exact of_decide_eq_true this
  have hgy : ∀ (j : Nat) (hj : j < Y.size), 48 ≤ Y[j].toNat ∧ Y[j].toNat ≤ 57 := fun j hj => by
    have := hdy Y[j] (List.mem_of_getElem? (at_list Y j hj))
    unfold isD at this; exact of_decide_eq_true this
  have hlx : X.size = X.size := rfl
  have hly : Y.size = Y.size := rfl
  have hmk := fun W => run_mk (X.size + Y.size) (by omega) W
  rw [show (((X.size + Y.size : Nat)) : Int) = (X.size : Int) + (Y.size : Int) by omega] at hmk
  have HD := Lib.hid (And.intro hgx hgy)
  clear hgx hgy
  obtain ⟨B, hB⟩ : ∃ B, w.heap.size = B := ⟨_, rfl⟩
  have hlx1 : 1 ≤ (X.size : Int) := by omega
  have hly1 : 1 ≤ (Y.size : Int) := by omega
  have hlx2 : (X.size : Int) ≤ 20 := by omega
  have hly2 : (Y.size : Int) ≤ 20 := by omega
  go_enter Tryd.func22, Tryd.ntmps22
  have HF := Lib.hid (And.intro hdx (And.intro hdy (And.intro hlx hly)))
  clear hlx hly
  have HI := Lib.hid (And.intro hX hY)
  clear hdx hdy hX hY
  go_wp2
  generalize hW0 : w.alloc (Obj.cells (rowI (List.replicate (X.size + Y.size) 0)) 3) = W0
  have hI0 : IAt W0 B (List.replicate (X.size + Y.size) 0) := by
    unfold IAt; rw [← hW0, ← hB]; show (w.heap.push _)[w.heap.size]? = _; simp
  have HB0 : Hid (Below B w W0) := Lib.hid (by rw [← hW0, ← hB]; exact (Below.refl _ _).alloc (Nat.le_refl _) _)
  have HS0 : Hid (B + 1 ≤ W0.heap.size) := Lib.hid (by rw [← hW0, ← hB]; show _ ≤ (w.heap.push _).size; simp)
  clear hW0 hmk
  go_loopw [6] (fun iv wr => ∃ (I : Nat) (o : List Nat) (v : Int), I ≤ X.size ∧ v = (I : Int) - 1 ∧ iv = .int .i64 v ∧ o.length = X.size + Y.size ∧ Hid (IAt wr B o) ∧ Hid (∀ (j : Nat) (hj : j < o.length), o[j] ≤ 1620 * (X.size - I)) ∧ Hid (dvN o = valD (X.data.toList.drop I) * valD Y.data.toList) ∧ Hid (Below B w wr) ∧ Hid (B + 1 ≤ wr.heap.size)) (fun iv _ => (intOf iv + 1).toNat)
  case atStart => exact ⟨X.size, _, _, Nat.le_refl _, rfl, rfl, by simp, Lib.hid hI0, Lib.hid (by intro j hj; simp), Lib.hid (by rw [dvN_zero, List.drop_of_length_le (by simp)]; simp [valD, valF]), HB0, HS0⟩
  case round =>
    obtain ⟨I, o, v, hI, hv, rfl, hol, HO, HOB, HOV, HBW, HSW⟩ := hrel
    clear hI0
    by_cases hI0 : 0 < I
    · obtain ⟨I, rfl⟩ : ∃ I', I = I' + 1 := ⟨I - 1, by omega⟩
      obtain rfl : v = (I : Int) := by omega
      clear hI0 hv
      have hIx : I < X.size := by have := HF.out.2.2.1; omega
      obtain ⟨dx, hdx⟩ : ∃ c : Nat, X[I].toNat - 48 = c := ⟨_, rfl⟩
      have hd9 : dx ≤ 9 := by have := (HD.out.1 I hIx).2; omega
      have hde : (X[I].toNat : Int) - 48 = (dx : Int) := by have := (HD.out.1 I hIx).1; omega
      have hdc1 : (48 : Int) ≤ (X[I].toNat : Int) := by have := (HD.out.1 I hIx).1; omega
      have hdc2 : (X[I].toNat : Int) ≤ 57 := by have := (HD.out.1 I hIx).2; omega
      have HXV : Hid (valD (X.data.toList.drop I) = dx * 10 ^ (X.size - (I + 1)) + valD (X.data.toList.drop (I + 1))) := Lib.hid (by
        have hl : I < X.data.toList.length := by simpa using hIx
        rw [List.drop_eq_getElem_cons hl, valD_cons]
        have h3 := at_list X I hIx
        rw [List.getElem?_eq_getElem hl] at h3
        rw [Option.some.inj h3, hdx, List.length_drop]
        have : X.data.toList.length = X.size := by simp
        rw [this])
      clear hdx
      go_wp2
      go_loopw [7] (fun kv wr2 => ∃ (K : Nat) (o2 : List Nat) (v : Int), K ≤ Y.size ∧ v = (K : Int) - 1 ∧ kv = .int .i64 v ∧ o2.length = X.size + Y.size ∧ Hid (IAt wr2 B o2) ∧ Hid (∀ (j : Nat) (hj : j < o2.length), o2[j] ≤ 1620 * (X.size - (I + 1)) + 81 * (Y.size - K)) ∧ Hid (dvN o2 = valD (X.data.toList.drop (I + 1)) * valD Y.data.toList + dx * 10 ^ (X.size - (I + 1)) * valD (Y.data.toList.drop K)) ∧ Hid (Below B w wr2) ∧ Hid (B + 1 ≤ wr2.heap.size)) (fun kv _ => (intOf kv + 1).toNat)
      case atStart => exact ⟨Y.size, o, _, Nat.le_refl _, rfl, rfl, hol, HO, Lib.hid (by intro j hj; have := HOB.out j hj; omega), Lib.hid (by rw [HOV.out, List.drop_of_length_le (l := Y.data.toList) (by simp)]; simp [valD, valF]), HBW, HSW⟩
      case round =>
        obtain ⟨K, o2, v, hK, hv, rfl, ho2, HO2, HO2B, HO2V, HB2, HS2⟩ := hrel
        by_cases hK0 : 0 < K
        · obtain ⟨K, rfl⟩ : ∃ K', K = K' + 1 := ⟨K - 1, by omega⟩
          obtain rfl : v = (K : Int) := by omega
          clear hK0 hv
          have hKy : K < Y.size := by have := HF.out.2.2.2; omega
          obtain ⟨dy, hdy⟩ : ∃ c : Nat, Y[K].toNat - 48 = c := ⟨_, rfl⟩
          have he9 : dy ≤ 9 := by have := (HD.out.2 K hKy).2; omega
          have hee : (Y[K].toNat : Int) - 48 = (dy : Int) := by have := (HD.out.2 K hKy).1; omega
          have hec1 : (48 : Int) ≤ (Y[K].toNat : Int) := by have := (HD.out.2 K hKy).1; omega
          have hec2 : (Y[K].toNat : Int) ≤ 57 := by have := (HD.out.2 K hKy).2; omega
          have HYV : Hid (valD (Y.data.toList.drop K) = dy * 10 ^ (Y.size - (K + 1)) + valD (Y.data.toList.drop (K + 1))) := Lib.hid (by
            have hl : K < Y.data.toList.length := by simpa using hKy
            rw [List.drop_eq_getElem_cons hl, valD_cons]
            have h3 := at_list Y K hKy
            rw [List.getElem?_eq_getElem hl] at h3
            rw [Option.some.inj h3, hdy, List.length_drop]
            have : Y.data.toList.length = Y.size := by simp
            rw [this])
          clear hdy
          have hjl : I + K + 1 < o2.length := by omega
          obtain ⟨m, hm⟩ : ∃ m, o2[I + K + 1] = m := ⟨_, rfl⟩
          have hmb : m ≤ 40000 := by have := HO2B.out (I + K + 1) hjl; rw [hm] at this; have := HI.out; have := HF.out; omega
          have hc := HO2.out.cell (I + K + 1) hjl
          rw [hm] at hc
          have hfz := HO2.out.free (I + K + 1)
          obtain ⟨p, hp⟩ : ∃ p, dx * dy = p := ⟨_, rfl⟩
          have hp81 : p ≤ 81 := by rw [← hp]; exact Nat.mul_le_mul hd9 he9
          have hpe : (dx : Int) * (dy : Int) = (p : Int) := by rw [← hp, Int.natCast_mul]
          go_wp2
          go_region
          go_wp2
          go_roundw
          case rel =>
            refine ⟨K, o2.set (I + K + 1) (m + p), _, by omega, rfl, rfl, by rw [List.length_set]; exact ho2, ?_, ?_, ?_, ?_, ?_⟩
            · exact Lib.hid (by have h := (HO2.out.set (I + K + 1) (m + p)).drew; rw [Int.natCast_add] at h; exact h)
            · refine Lib.hid fun j hj => ?_
              rw [List.length_set] at hj
              have h1 := HO2B.out j hj
              by_cases hjj : I + K + 1 = j
              · subst hjj; rw [List.getElem_set_self]; rw [hm] at h1; omega
              · rw [List.getElem_set_ne hjj]; omega
            · refine Lib.hid ?_
              have h1 := dvN_set p o2 (I + K + 1) hjl
              rw [hm] at h1
              rw [h1, HO2V.out, HYV.out, ho2, ← hp, show X.size + Y.size - 1 - (I + K + 1) = (X.size - (I + 1)) + (Y.size - (K + 1)) by omega, Nat.pow_add]
              exact tim_step _ _ _ _ _ _
            · exact Lib.hid ((HB2.out.setCell (by show B ≤ B; omega) _).drew)
            · exact Lib.hid (by have := HS2.out; simpa [World.drew, go_sem] using this)
          case measure => simp [intOf]
        · obtain rfl : K = 0 := by omega
          obtain rfl : v = -1 := by omega
          clear hK0 hv
          have HN1 : Hid (∀ (j : Nat) (hj : j < o2.length), o2[j] ≤ 1620 * (X.size - I)) := Lib.hid fun j hj => by have := HO2B.out j hj; have := HI.out; omega
          have HN2 : Hid (dvN o2 = valD (X.data.toList.drop I) * valD Y.data.toList) := Lib.hid (by
            rw [HO2V.out, HXV.out, List.drop_zero, Nat.add_mul]; omega)
          go_wp2
          go_roundw
          case rel => exact ⟨I, o2, _, by omega, rfl, rfl, ho2, HO2, HN1, HN2, HB2, HS2⟩
          case measure => simp [intOf]
    · obtain rfl : I = 0 := by omega
      obtain rfl : v = -1 := by omega
      clear hI0 hv
      obtain ⟨P, hP⟩ : ∃ P, valD X.data.toList * valD Y.data.toList = P := ⟨_, rfl⟩
      have HPb : Hid (P < 10 ^ (X.size + Y.size)) := Lib.hid (by
        have h1 := valD_lt _ HF.out.1
        have h2 := valD_lt _ HF.out.2.1
        rw [← hP, Nat.pow_add]
        have e1 : X.data.toList.length = X.size := by simp
        have e2 : Y.data.toList.length = Y.size := by simp
        rw [e1] at h1; rw [e2] at h2
        exact Nat.mul_lt_mul'' h1 h2)
      have HOP : Hid (dvN o = P) := Lib.hid (by rw [HOV.out, List.drop_zero, hP])
      have HPP := Lib.hid hP
      clear hP HOV
      go_wp2
      go_loopw [8] (fun iv wr3 => ∃ (J : Nat) (o3 : List Nat) (v : Int), J < X.size + Y.size ∧ v = (J : Int) ∧ iv = .int .i64 v ∧ o3.length = X.size + Y.size ∧ Hid (IAt wr3 B o3) ∧ Hid (∀ (j : Nat) (hj : j < o3.length), (j < J → o3[j] ≤ 32400) ∧ (j = J → o3[j] ≤ 40000) ∧ (J < j → o3[j] < 10)) ∧ Hid (dvN o3 = P) ∧ Hid (Below B w wr3) ∧ Hid (B + 1 ≤ wr3.heap.size)) (fun iv _ => (intOf iv).toNat)
      case atStart => exact ⟨X.size + Y.size - 1, o, _, by omega, by omega, rfl, hol, HO, Lib.hid (fun j hj => ⟨fun _ => by have := HOB.out j hj; have := HI.out; omega, fun _ => by have := HOB.out j hj; have := HI.out; omega, fun h => absurd hj (by omega)⟩), HOP, HBW, HSW⟩
      case round =>
        obtain ⟨J, o3, v, hJ, hv, rfl, ho3, HO3, HO3B, HO3V, HB3, HS3⟩ := hrel
        by_cases hJ0 : 0 < J
        · obtain ⟨J, rfl⟩ : ∃ J', J = J' + 1 := ⟨J - 1, by omega⟩
          obtain rfl : v = (J : Int) + 1 := by omega
          clear hJ0 hv
          have hj1 : J < o3.length := by omega
          have hj2 : J + 1 < o3.length := by omega
          obtain ⟨a, ha⟩ : ∃ a, o3[J] = a := ⟨_, rfl⟩
          obtain ⟨b, hb⟩ : ∃ b, o3[J + 1] = b := ⟨_, rfl⟩
          have hab : a ≤ 32400 := by have := (HO3B.out J hj1).1 (by omega); rw [ha] at this; exact this
          have hbb : b ≤ 40000 := by have := (HO3B.out (J + 1) hj2).2.1 rfl; rw [hb] at this; exact this
          have hca := HO3.out.cell J hj1
          have hcb := HO3.out.cell (J + 1) hj2
          rw [ha] at hca
          rw [hb] at hcb
          have hfa := HO3.out.free J
          have hfb := HO3.out.free (J + 1)
          obtain ⟨q, hq⟩ : ∃ q, b / 10 = q := ⟨_, rfl⟩
          have hqe : (b : Int).tdiv 10 = (q : Int) := by rw [Int.tdiv_eq_ediv_of_nonneg (by omega)]; omega
          have hqd : (b : Int) / 10 = (q : Int) := by omega
          have hqb : q ≤ 4000 := by omega
          have HAB := Lib.hid (And.intro ha (And.intro hb hq))
          clear ha hb hq
          go_wp2
          have H5 : IAt ((wr.setCell ⟨B, J, none⟩ (.int .i64 ((a : Int) + (q : Int)))).drew) B (o3.set J (a + q)) := by have h := (HO3.out.set J (a + q)).drew; rw [Int.natCast_add] at h; exact h
          have hj3 : J + 1 < (o3.set J (a + q)).length := by rw [List.length_set]; exact hj2
          have hv5 : (o3.set J (a + q))[J + 1] = b := by rw [List.getElem_set_ne (by omega)]; exact HAB.out.2.1
          have hc5 := H5.cell (J + 1) hj3
          rw [hv5] at hc5
          have hf5 := H5.free (J + 1)
          obtain ⟨r, hr⟩ : ∃ r, b % 10 = r := ⟨_, rfl⟩
          have hre : (b : Int).tmod 10 = (r : Int) := by rw [Int.tmod_eq_emod_of_nonneg (by omega)]; omega
          have hrd : (b : Int) % 10 = (r : Int) := by omega
          have HR := Lib.hid hr
          have H6 := Lib.hid (H5.set (J + 1) r)
          have HB5 : Hid (Below B w ((wr.setCell ⟨B, J, none⟩ (.int .i64 ((a : Int) + (q : Int)))).drew)) := Lib.hid ((HB3.out.setCell (by show B ≤ B; omega) _).drew)
          have HS5 : Hid (B + 1 ≤ ((wr.setCell ⟨B, J, none⟩ (.int .i64 ((a : Int) + (q : Int)))).drew).heap.size) := Lib.hid (by have := HS3.out; simpa [World.drew, go_sem] using this)
          clear hr H5
          go_region
          go_wp2
          go_roundw
          case rel =>
            refine ⟨J, (o3.set J (a + q)).set (J + 1) r, _, by omega, rfl, by go_num, by rw [List.length_set, List.length_set]; exact ho3, H6, ?_, ?_, Lib.hid (HB5.out.setCell (by show B ≤ B; omega) _), ?_⟩
            · refine Lib.hid fun j hj => ?_
              rw [List.length_set, List.length_set] at hj
              have h1 := HO3B.out j hj
              have hA := HAB.out
              have hRr := HR.out
              by_cases e1 : J + 1 = j
              · subst e1; rw [List.getElem_set_self]; exact ⟨fun h => by omega, fun h => by omega, fun _ => by omega⟩
              · rw [List.getElem_set_ne e1]
                by_cases e2 : J = j
                · subst e2; rw [List.getElem_set_self]; exact ⟨fun h => by omega, fun _ => by omega, fun h => by omega⟩
                · rw [List.getElem_set_ne e2]; exact ⟨fun h => h1.1 (by omega), fun h => absurd h (by omega), fun h => h1.2.2 (by omega)⟩
            · refine Lib.hid ?_
              have h1 := dvN_carry o3 J hj2
              rw [HAB.out.1, HAB.out.2.1, HAB.out.2.2, HR.out] at h1
              rw [h1]; exact HO3V.out
            · exact Lib.hid (by have := HS5.out; simpa [go_sem] using this)
          case measure => simp [intOf]
        · obtain rfl : J = 0 := by omega
          obtain rfl : v = 0 := by omega
          clear hJ0 hv
          have HDD : Hid (∀ (j : Nat) (hj : j < o3.length), o3[j] < 10) := by
            refine Lib.hid fun j hj => ?_
            rcases Nat.eq_zero_or_pos j with h0 | h0
            · subst h0
              obtain ⟨d0, l0, hdl⟩ : ∃ d0 l0, o3 = d0 :: l0 := by cases o3 with | nil => cases hj | cons d l => exact ⟨d, l, rfl⟩
              subst hdl
              have h2 := HO3V.out
              have h3 := HPb.out
              rw [← h2] at h3
              have h4 : l0.length + 1 = X.size + Y.size := by simpa using ho3
              rw [← h4] at h3
              exact dvN_head d0 l0 _ h3 rfl
            · exact (HO3B.out j hj).2.2 h0
          obtain ⟨D, hD⟩ : ∃ D : ByteArray, D = ⟨(digB o3).toArray⟩ := ⟨_, rfl⟩
          have hDs : D.size = X.size + Y.size := by rw [hD, ← ho3]; simp [digB, ByteArray.size]
          have hDl : D.data.toList = digB o3 := by rw [hD]
          have HDk : Hid (D.data.toList = digB o3 ∧ valD D.data.toList = P ∧ ∀ c ∈ D.data.toList, isD c = true) := Lib.hid (by
            have hall : ∀ d ∈ o3, d < 10 := fun d hd => by
              obtain ⟨j, hj, hjd⟩ := List.mem_iff_getElem.1 hd
              rw [← hjd]; exact HDD.out j hj
            exact ⟨hDl, by rw [hDl, digB_val o3 hall]; exact HO3V.out, by rw [hDl]; exact digB_isD o3 hall⟩)
          clear hD hDl
          have HDs := Lib.hid hDs
          clear hDs
          go_wp2
          go_loopw [9, 81] (fun sv iv wr4 => ∃ (k : Nat) (t : ByteArray), k ≤ X.size + Y.size ∧ iv = .int .i64 k ∧ sv = .string t ∧ Hid (t.size = k ∧ t.data.toList = digB (o3.take k)) ∧ Hid (Below (B + 1) wr wr4)) (fun _ iv _ => X.size + Y.size - (intOf iv).toNat)
          case atStart => exact ⟨0, ⟨#[]⟩, Nat.zero_le _, rfl, rfl, Lib.hid ⟨rfl, rfl⟩, Lib.hid (Below.refl _ _)⟩
          case round =>
            obtain ⟨k, t, hk, rfl, rfl, HT, HB4⟩ := hrel
            by_cases hlt : k < X.size + Y.size
            · have hko : k < o3.length := by omega
              have hc := (HB4.out.cell (show B < B + 1 by omega)).trans (HO3.out.cell k hko)
              have hd9 := HDD.out k hko
              obtain ⟨d, hd⟩ : ∃ d, o3[k] = d := ⟨_, rfl⟩
              rw [hd] at hc hd9
              obtain ⟨c8, hc8⟩ : ∃ c8 : UInt8, UInt8.ofNat (48 + d) = c8 := ⟨_, rfl⟩
              have hcn : c8.toNat = 48 + d := by rw [← hc8]; exact UInt8.toNat_ofNat_of_lt' (by show 48 + d < 256; omega)
              have hcv := conv_one c8 (48 + (d : Int)) (by omega) ⟨wr.heap.size, 0, none⟩ (wr.alloc (.cells #[.int .u8 (48 + (d : Int))] 5)) (by simp [go_sem])
              have hts : t.size ≤ 40 := by have := HT.out.1; omega
              have HN : Hid ((t ++ ({ data := #[c8] } : ByteArray)).size = k + 1 ∧ (t ++ ({ data := #[c8] } : ByteArray)).data.toList = digB (o3.take (k + 1))) := Lib.hid ⟨by rw [ByteArray.size_append, HT.out.1]; rfl, by
                rw [ByteArray.data_append, Array.toList_append, HT.out.2, List.take_add_one, List.getElem?_eq_getElem hko, hd]
                show digB (o3.take k) ++ [c8] = _
                rw [← hc8]; simp [digB]⟩
              have HBn : Hid (Below (B + 1) _ (wr.alloc (.cells #[.int .u8 (48 + (d : Int))] 5))) := Lib.hid (HB4.out.alloc (by have := HS3.out; have := HB4.out.size; omega) _)
              have hdi : (d : Int) ≤ 9 := by omega
              clear hd hc8 hcn hd9
              go_wp2
              go_roundw
              case rel => exact ⟨k + 1, _, by omega, by go_num, rfl, HN, HBn⟩
              case measure => simp [intOf]; omega
            · have HE : Hid (t = D) := Lib.hid (WideShapes.bytes_inj (by rw [HT.out.2, HDk.out.1, List.take_of_length_le (by omega)]))
              have HBe := Lib.hid (HB3.out.trans (HB4.out.mono (by omega)))
              go_wp2
              go_ret
              refine ⟨⟨D, by first | rfl | rw [HE.out]; rfl, by rw [HDs.out], HDk.out.2.2, by rw [HDk.out.2.1, HPP.out]⟩, by rw [hB]; exact HBe.out⟩
end Go.Proofs.YtknnaloepkonlaaDoor
