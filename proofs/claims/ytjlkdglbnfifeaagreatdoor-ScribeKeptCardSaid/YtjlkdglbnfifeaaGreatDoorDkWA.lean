/-
  CONTRACT of Read: so many bytes of a file from a place on.
-/
import Derived.Test.YtjlkdglbnfifeaaGreatDoorDkW9
import Derived.Lib.BufferRead
namespace Go.Proofs.YtjlkdglbnfifeaaGreatDoor
open Go.RowKit Go.Maps

variable {Fp : Nat → Prop} {w : World} {Bd mn ms : Nat} {vs : Nat → Value × Value} {d : DS} {m : Nat}
def readE (d : DS) (s : ByteArray) (a n : Int) : Int := if findE d s.data.toList ≠ 0 then findE d s.data.toList else if a < 0 ∨ n < 0 then 1 else 0
def readS (d : DS) (s : ByteArray) (a n : Int) : ByteArray := match findV d s.data.toList with
  | none => ⟨#[]⟩
  | some b => if a < 0 ∨ n < 0 then ⟨#[]⟩ else ⟨(((d.fs b).1.drop a.toNat).take n.toNat).toArray⟩
theorem row_conv {g : Nat} {cur : Array Value} {l : List UInt8} (hb : Row w g cur) (ht : cur.toList.take l.length = Lib.byteCells l) (A M c : Nat) (hA : A + M ≤ l.length) :
    (convert 27 9 (.slice (some ((⟨g, 0, none⟩ : Addr).add A)) M c)).run Tryz.prog w = .ok (.string ⟨((l.drop A).take M).toArray⟩) w := by
  obtain ⟨fz, _, hb⟩ := hb
  have hl : ((l.drop A).take M).length = M := by simp; omega
  have := run_convert_bytes_back (P := Tryz.prog) w 27 9 5 ((⟨g, 0, none⟩ : Addr).add A) c ((l.drop A).take M) Tryz.underlying27 Tryz.underlying5 Tryz.underlying9 (by
    intro j hj
    rw [hl] at hj
    have e1 : ((⟨g, 0, none⟩ : Addr).add A).add j = ⟨g, A + j, none⟩ := by
      unfold Addr.add
      by_cases h1 : A = 0 <;> by_cases h2 : j = 0 <;> simp [h1, h2]
    rw [e1, block_cell hb]
    have e2 : cur[A + j]? = (cur.toList.take l.length)[A + j]? := by
      rw [List.getElem?_take, if_pos (by omega)]; simp
    rw [e2, ht]
    simp only [Lib.byteCells, List.getElem?_map]
    rw [List.getElem?_eq_getElem (by omega)]
    simp)
  rw [hl] at this
  exact this
set_option maxHeartbeats 4000000 in
set_option maxRecDepth 100000 in
theorem read_any (h : DV Fp w Bd mn ms vs d m) (s : ByteArray) (hs : s.size ≤ 9223372036854775807) (a n : Int) (ha : a ≤ 9223372036854775807) (hn : n ≤ 9223372036854775807) :
    Calls Tryz.prog 28 #[.pointer (some ⟨Bd, 0, none⟩), .string s, .int .i64 a, .int .i64 n] w fun e w' => e = .returned (.tuple #[.string (readS d s a n), .int .i64 (readE d s a n)]) ∧ Below w.heap.size w w' := by
  have FD := Lib.hid (find_any h s hs)
  cases hv : findV d s.data.toList with
  | none =>
    have he := find_none hv
    have he0 : (findE d s.data.toList != 0) = true := by simpa using he
    have e1 : readS d s a n = ⟨#[]⟩ := by simp [readS, hv]
    have e2 : readE d s a n = findE d s.data.toList := by simp [readE, he]
    rw [e1, e2]
    rw [hv] at FD
    unfold ptrV at FD
    generalize findE d s.data.toList = er at *
    clear h hv he e1 e2 ha hn
    go_enter Tryz.func28, Tryz.ntmps28
    go_wp2_with (refine FD.out.mono ?_; rintro e w1 ⟨rfl, rfl⟩)
    refine bodyPost_ret (results_tmp2 rfl _ _ _) rfl ?_
    exact ⟨rfl, Below.refl _ _⟩
  | some b =>
    obtain ⟨he, hg, hd⟩ := find_some hv
    rw [hv, he] at FD
    unfold ptrV at FD
    by_cases hneg : a < 0 ∨ n < 0
    · have e1 : readS d s a n = ⟨#[]⟩ := by simp only [readS, hv]; rw [if_pos hneg]
      have e2 : readE d s a n = 1 := by unfold readE; rw [if_neg (by simp [he]), if_pos hneg]
      rw [e1, e2]
      clear h hv he e1 e2 ha hn
      by_cases h1 : a < 0
      · go_enter Tryz.func28, Tryz.ntmps28
        go_wp2_with (refine FD.out.mono ?_; rintro e w1 ⟨rfl, rfl⟩)
        refine bodyPost_ret (results_tmp2 rfl _ _ _) rfl ?_
        exact ⟨rfl, Below.refl _ _⟩
      · have h2 : n < 0 := hneg.resolve_left h1
        have h1' : decide (a < 0) = false := by simpa using h1
        clear hneg
        go_enter Tryz.func28, Tryz.ntmps28
        go_wp2_with (refine FD.out.mono ?_; rintro e w1 ⟨rfl, rfl⟩)
        refine bodyPost_ret (results_tmp2 rfl _ _ _) rfl ?_
        exact ⟨rfl, Below.refl _ _⟩
    · have hf := h.files b (h.has_of_get hg)
      have hl := (h.lens b (h.has_of_get hg)).1
      have f0 := hf.c0
      have e2 : readE d s a n = 0 := by unfold readE; rw [if_neg (by simp [he]), if_neg hneg]
      rw [e2]
      obtain ⟨a0, rfl⟩ : ∃ a0 : Nat, a = a0 := ⟨a.toNat, by omega⟩
      obtain ⟨n0, rfl⟩ : ∃ n0 : Nat, n = n0 := ⟨n.toNat, by omega⟩
      have e1 : readS d s a0 n0 = ⟨(((d.fs b).1.drop a0).take n0).toArray⟩ := by simp only [readS, hv]; rw [if_neg hneg]; rfl
      rw [e1]
      clear hneg hn ha
      obtain ⟨A, hA1, hA2, hA3⟩ : ∃ A : Nat, min (a0 : Int) ((d.fs b).1.length : Int) = (A : Int) ∧ A ≤ (d.fs b).1.length ∧ (d.fs b).1.drop a0 = (d.fs b).1.drop A := ⟨min a0 (d.fs b).1.length, by omega, by omega, by
        by_cases hx : a0 ≤ (d.fs b).1.length
        · rw [Nat.min_eq_left hx]
        · rw [Nat.min_eq_right (by omega), List.drop_eq_nil_of_le (by omega), List.drop_length]⟩
      obtain ⟨M, hM1, hM2, hM3⟩ : ∃ M : Nat, min (n0 : Int) (((d.fs b).1.length - A : Nat) : Int) = (M : Int) ∧ A + M ≤ (d.fs b).1.length ∧ ((d.fs b).1.drop A).take n0 = ((d.fs b).1.drop A).take M := ⟨min n0 ((d.fs b).1.length - A), by omega, by omega, by
        by_cases hx : n0 ≤ (d.fs b).1.length - A
        · rw [Nat.min_eq_left hx]
        · rw [Nat.min_eq_right (by omega), List.take_of_length_le (by simp; omega), List.take_of_length_le (by simp)]⟩
      rw [hA3, hM3]
      have fin : ∀ (W : World), Below w.heap.size w W.drew → Below w.heap.size w W.drew := fun _ h => h
      clear fin
      rcases hf.s1 with ⟨hv1, hl0⟩ | ⟨g, cap, cur, hv1, hgb, h1, h2, h3, h4⟩
      · rw [hv1] at f0
        have hm0 : min (n0 : Int) 0 = 0 := by omega
        have hma : min (a0 : Int) 0 = 0 := by omega
        have hcw := Lib.run_convert_nil_bytes (P := Tryz.prog) w.drew 27 9 5 0 Tryz.underlying27 Tryz.underlying5 Tryz.underlying9
        rw [hl0] at hA1 hA2 hM1 hM2 ⊢
        simp only [List.length_nil] at hA1 hA2 hM1 hM2
        obtain rfl : A = 0 := by omega
        obtain rfl : M = 0 := by omega
        clear hv he e1 e2 hg hd hf h hv1 hA3 hM3 hl0 hl
        go_enter Tryz.func28, Tryz.ntmps28
        go_wp2_with (refine FD.out.mono ?_; rintro e w1 ⟨rfl, rfl⟩)
        go_region
        all_goals
          go_wp2
          refine bodyPost_ret (results_tmp2 rfl _ _ _) rfl ?_
          exact ⟨rfl, (Below.refl _ _).drew⟩
      · by_cases hcA : cap = A
        · have hLA : (d.fs b).1.length = A := by omega
          obtain rfl : M = 0 := by omega
          have hcw := row_conv (w := w.drew) hgb h4 0 0 0 (by omega)
          have e0 : (⟨g, 0, none⟩ : Addr).add 0 = ⟨g, 0, none⟩ := rfl
          rw [e0, List.take_zero] at hcw
          have hm0 : min (n0 : Int) 0 = 0 := by omega
          rw [List.take_zero]
          rw [hv1] at f0
          rw [hLA] at f0 hA1 hA2 hM1
          subst hcA
          clear hv he e1 e2 hg hd hf h hv1 h4 hA3 hM3 hgb hLA
          go_enter Tryz.func28, Tryz.ntmps28
          go_wp2_with (refine FD.out.mono ?_; rintro e w1 ⟨rfl, rfl⟩)
          go_region
          all_goals
            go_wp2
            refine bodyPost_ret (results_tmp2 rfl _ _ _) rfl ?_
            exact ⟨rfl, (Below.refl _ _).drew⟩
        · have hcd : Row w.drew g cur := hgb
          have hcw := row_conv hcd h4 A M (cap - A) hM2
          have e0 : (⟨g, 0, none⟩ : Addr).add A = ⟨g, A, none⟩ := by unfold Addr.add; split <;> simp_all
          rw [e0] at hcw
          rw [hv1] at f0
          generalize hR : (⟨(((d.fs b).1.drop A).take M).toArray⟩ : ByteArray) = R at *
          generalize (d.fs b).1.length = L at *
          clear hv he e1 e2 hg hd hf h hv1 h4 hR hA3 hM3 hgb hcd
          go_enter Tryz.func28, Tryz.ntmps28
          go_wp2_with (refine FD.out.mono ?_; rintro e w1 ⟨rfl, rfl⟩)
          go_region
          all_goals
            go_wp2
            refine bodyPost_ret (results_tmp2 rfl _ _ _) rfl ?_
            exact ⟨rfl, (Below.refl _ _).drew⟩
end Go.Proofs.YtjlkdglbnfifeaaGreatDoor
