/-
  CONTRACT of Truncate.
-/
import Derived.Test.YtfacobejgmnmpaaDkL
namespace Go.Proofs.Ytfacobejgmnmpaa
open Go.RowKit Go.Maps

variable {Fp : Nat → Prop} {w : World} {Bd mn ms : Nat} {vs : Nat → Value × Value} {d : DS} {m : Nat}
def truE (d : DS) (s : ByteArray) (k : Int) : Int := match findV d s.data.toList with
  | none => findE d s.data.toList
  | some b => if k < 0 ∨ ((d.fs b).1.length : Int) < k then 1 else if d.left = 0 then 8 else 0
def truD (d : DS) (s : ByteArray) (k : Int) : DS := match findV d s.data.toList with
  | none => d
  | some b => if k < 0 ∨ ((d.fs b).1.length : Int) < k then d else if d.left = 0 then dieD d else cutF (decD d) b k.toNat
theorem drewB {w' : World} {a : Addr} {v : Value} (h : w'.cell? a = some v) : w'.drew.cell? a = some v := h
set_option maxHeartbeats 8000000 in
set_option maxRecDepth 100000 in
theorem trunc_any (h : DV Fp w Bd mn ms vs d m) (hne : mn ≠ ms) (s : ByteArray) (hs : s.size ≤ 9223372036854775807) (k : Int) :
    Calls Try.prog 17 #[.pointer (some ⟨Bd, 0, none⟩), .string s, .int .i64 k] w (OpEnd Fp w Bd (truD d s k) m (truE d s k)) := by
  have hB := h.alloc (.cells #[.int .i64 k] 3)
  have hOB := (Oth.refl Fp w).alloc (.cells #[.int .i64 k] 3)
  have hsz : (w.alloc (.cells #[.int .i64 k] 3)).heap.size = w.heap.size + 1 := by simp
  have FD := Lib.hid (find_any hB s hs)
  have hltB := h.ltB
  have b0 := alloc_cell w (.int .i64 k) 3
  cases hv : findV d s.data.toList with
  | none =>
    have he := find_none hv
    have he0 : (findE d s.data.toList != 0) = true := by simpa using he
    have HP : Hid (OpEnd Fp w Bd (truD d s k) m (truE d s k) (.returned (.int .i64 (findE d s.data.toList))) ((w.alloc (.cells #[.int .i64 k] 3)).alloc (.cells #[.pointer none] 74))) := Lib.hid ⟨by simp only [truE, hv], by simp only [truD, hv]; exact ⟨⟨_, _, _, hne, hB.alloc _⟩, hOB.alloc _⟩⟩
    rw [hv] at FD
    unfold ptrV at FD
    generalize findE d s.data.toList = er at *
    clear h hne hv he hB hOB
    go_enter Try.func17, Try.ntmps17
    go_wp2_with (refine FD.out.mono ?_; rintro e w1 ⟨rfl, rfl⟩)
    go_ret
    exact HP.out
  | some b =>
    obtain ⟨he, hg, hd⟩ := find_some hv
    have hA := hB.alloc (.cells #[.pointer (some ⟨b, 0, none⟩)] 74)
    have hO := hOB.alloc (.cells #[.pointer (some ⟨b, 0, none⟩)] 74)
    have k1 := alloc_cell (w.alloc (.cells #[.int .i64 k] 3)) (.pointer (some ⟨b, 0, none⟩)) 74
    rw [hsz] at k1
    have k0 := alloc_keep b0 (.cells #[.pointer (some ⟨b, 0, none⟩)] 74)
    have hbH := hA.has_of_get hg
    have hf := hA.files b hbH
    have f0 := hf.c0
    obtain ⟨p, c, hp, _, _⟩ := hf.s1.form
    rw [hp] at f0
    have hl := (hA.lens b hbH).1
    rw [hv, he] at FD
    unfold ptrV at FD
    by_cases h1 : k < 0
    · have HP : Hid (∀ W : World, W.heap = ((w.alloc (.cells #[.int .i64 k] 3)).alloc (.cells #[.pointer (some ⟨b, 0, none⟩)] 74)).heap → W.os = w.os → W.tape = w.tape → W.output = w.output → OpEnd Fp w Bd (truD d s k) m (truE d s k) (.returned (.int .i64 1)) W) := by
        refine Lib.hid (fun W e1 e2 e3 e4 => ⟨by simp only [truE, hv]; rw [if_pos (.inl h1)], by simp only [truD, hv]; rw [if_pos (.inl h1)]; exact ⟨⟨_, _, _, hne, hA.kept (fun j _ _ => by rw [e1])⟩, ⟨e2, e3, e4, by rw [e1]; exact hO.size, fun j hj hn => by rw [e1]; exact hO.block j hj hn⟩⟩⟩)
      have i1 : decide (k < 0) = true := by simpa using h1
      clear h hne hv he hB hOB hg hd hA hO hf hp hl hbH
      go_enter Try.func17, Try.ntmps17
      go_wp2_with fail
      refine FD.out.mono ?_
      rintro e w1 ⟨rfl, rfl⟩
      go_wp2_with fail
      generalize hX : (w.alloc (.cells #[.int .i64 k] 3)).alloc (.cells #[.pointer (some ⟨b, 0, none⟩)] 74) = X at *
      refine wp_region_held_drew (S := fun w' => w'.cell? ⟨w.heap.size, 0, none⟩ = some (.int .i64 k) ∧ w' = X.drew) (by kernel_rfl) (⟨k0, rfl⟩) (fun hHeld => ?_)
      refine wpAnyH_take (i := 0) (oi := _) (v := ?_) rfl (by kernel_rfl) (by kernel_rfl) (by kernel_rfl) (fun _ _ _ h => h) (Or.inl ⟨by rfl, ?_⟩) (by assumption) ?_
      rotate_left
      · (intro w hSw; (try dsimp only at hSw); go_simp; try with_reducible rfl)
      try simp only [List.getElem_toArray, List.getElem_cons_zero, Act.put, List.setIfInBounds_toArray, List.set_cons_zero, List.set_cons_succ]
      refine wpAnyH_take (i := 1) (oi := _) (v := ?_) rfl (by kernel_rfl) (by kernel_rfl) (by kernel_rfl) (fun _ _ _ h => h) (Or.inl ⟨by rfl, ?_⟩) (by assumption) ?_
      rotate_left
      · (intro w hSw; (try dsimp only at hSw); go_simp; try with_reducible rfl)
      try simp only [List.getElem_toArray, List.getElem_cons_zero, List.getElem_cons_succ, Act.put, List.setIfInBounds_toArray, List.set_cons_zero, List.set_cons_succ]
      refine wpAnyH_take (i := 2) (oi := _) (v := ?_) rfl (by kernel_rfl) (by kernel_rfl) (by kernel_rfl) (fun _ _ _ h => h) (Or.inl ⟨by rfl, ?_⟩) (by assumption) ?_
      rotate_left
      · (intro w hSw; (try dsimp only at hSw); go_simp; try with_reducible rfl)
      try simp only [List.getElem_toArray, List.getElem_cons_zero, List.getElem_cons_succ, Act.put, List.setIfInBounds_toArray, List.set_cons_zero, List.set_cons_succ]
      refine wpAnyH_take (i := 3) (oi := _) (v := undef) rfl (by kernel_rfl) (by kernel_rfl) (by kernel_rfl) (fun _ _ _ h => h) (Or.inr ⟨by rfl, rfl⟩) (by assumption) ?_
      try simp only [List.getElem_toArray, List.getElem_cons_zero, List.getElem_cons_succ, Act.put, List.setIfInBounds_toArray, List.set_cons_zero, List.set_cons_succ]
      refine wpAnyH_take (i := 4) (oi := _) (v := undef) rfl (by kernel_rfl) (by kernel_rfl) (by kernel_rfl) (fun _ _ _ h => h) (Or.inr ⟨by rfl, rfl⟩) (by assumption) ?_
      try simp only [List.getElem_toArray, List.getElem_cons_zero, List.getElem_cons_succ, Act.put, List.setIfInBounds_toArray, List.set_cons_zero, List.set_cons_succ]
      refine wpAnyH_take (i := 5) (oi := _) (v := undef) rfl (by kernel_rfl) (by kernel_rfl) (by kernel_rfl) (fun _ _ _ h => h) (Or.inr ⟨by rfl, rfl⟩) (by assumption) ?_
      try simp only [List.getElem_toArray, List.getElem_cons_zero, List.getElem_cons_succ, Act.put, List.setIfInBounds_toArray, List.set_cons_zero, List.set_cons_succ]
      refine wpAnyH_take (i := 6) (oi := _) (v := undef) rfl (by kernel_rfl) (by kernel_rfl) (by kernel_rfl) (fun _ _ _ h => h) (Or.inr ⟨by rfl, rfl⟩) (by assumption) ?_
      try simp only [List.getElem_toArray, List.getElem_cons_zero, List.getElem_cons_succ, Act.put, List.setIfInBounds_toArray, List.set_cons_zero, List.set_cons_succ]
      refine wpAnyH_take (i := 7) (oi := _) (v := undef) rfl (by kernel_rfl) (by kernel_rfl) (by kernel_rfl) (fun _ _ _ h => h) (Or.inr ⟨by rfl, rfl⟩) (by assumption) ?_
      try simp only [List.getElem_toArray, List.getElem_cons_zero, List.getElem_cons_succ, Act.put, List.setIfInBounds_toArray, List.set_cons_zero, List.set_cons_succ]
      refine wpAnyH_take (i := 8) (oi := _) (v := undef) rfl (by kernel_rfl) (by kernel_rfl) (by kernel_rfl) (fun _ _ _ h => h) (Or.inr ⟨by rfl, rfl⟩) (by assumption) ?_
      try simp only [List.getElem_toArray, List.getElem_cons_zero, List.getElem_cons_succ, Act.put, List.setIfInBounds_toArray, List.set_cons_zero, List.set_cons_succ]
      refine wpAnyH_take (i := 9) (oi := _) (v := undef) rfl (by kernel_rfl) (by kernel_rfl) (by kernel_rfl) (fun _ _ _ h => h) (Or.inr ⟨by rfl, rfl⟩) (by assumption) ?_
      try simp only [List.getElem_toArray, List.getElem_cons_zero, List.getElem_cons_succ, Act.put, List.setIfInBounds_toArray, List.set_cons_zero, List.set_cons_succ]
      refine wpAnyH_take (i := 10) (oi := _) (v := ?_) rfl (by kernel_rfl) (by kernel_rfl) (by kernel_rfl) (fun _ _ _ h => h) (Or.inl ⟨by rfl, ?_⟩) (by assumption) ?_
      rotate_left
      · (intro w hSw; (try dsimp only at hSw); go_simp; try with_reducible rfl)
      try simp only [List.getElem_toArray, List.getElem_cons_zero, List.getElem_cons_succ, Act.put, List.setIfInBounds_toArray, List.set_cons_zero, List.set_cons_succ]
      refine wpAnyH_done (by kernel_rfl) ?_ _
      go_wp2
      go_ret
      exact HP.out _ (by rw [← hX]; rfl) (by rw [← hX]; rfl) (by rw [← hX]; rfl) (by rw [← hX]; rfl)
    · by_cases h2 : ((d.fs b).1.length : Int) < k
      · have HP : Hid (∀ W : World, W.heap = ((w.alloc (.cells #[.int .i64 k] 3)).alloc (.cells #[.pointer (some ⟨b, 0, none⟩)] 74)).heap → W.os = w.os → W.tape = w.tape → W.output = w.output → OpEnd Fp w Bd (truD d s k) m (truE d s k) (.returned (.int .i64 1)) W) := by
          refine Lib.hid (fun W e1 e2 e3 e4 => ⟨by simp only [truE, hv]; rw [if_pos (.inr h2)], by simp only [truD, hv]; rw [if_pos (.inr h2)]; exact ⟨⟨_, _, _, hne, hA.kept (fun j _ _ => by rw [e1])⟩, ⟨e2, e3, e4, by rw [e1]; exact hO.size, fun j hj hn => by rw [e1]; exact hO.block j hj hn⟩⟩⟩)
        have i1 : decide (k < 0) = false := by simpa using h1
        generalize (d.fs b).1.length = L at *
        clear h hne hv he hB hOB hg hd hA hO hf hp hbH
        go_enter Try.func17, Try.ntmps17
        go_wp2_with fail
        refine FD.out.mono ?_
        rintro e w1 ⟨rfl, rfl⟩
        go_wp2_with fail
        go_region
        all_goals
          go_wp2
          go_ret
          exact HP.out _ rfl rfl rfl rfl
      · have hor : ¬ (k < 0 ∨ ((d.fs b).1.length : Int) < k) := by omega
        obtain ⟨k0n, rfl⟩ : ∃ k0n : Nat, k = k0n := ⟨k.toNat, by omega⟩
        have hbd : Bd < w.heap.size := hltB
        have DC : Hid (∀ W : World, W.heap = ((w.alloc (.cells #[.int .i64 (k0n : Int)] 3)).alloc (.cells #[.pointer (some ⟨b, 0, none⟩)] 74)).heap → W.os = w.os → W.tape = w.tape → W.output = w.output → Calls Try.prog 40 #[.pointer (some ⟨Bd, 0, none⟩), .func (.func 46) #[] #[.pointer (some ⟨w.heap.size + 1, 0, none⟩), .pointer (some ⟨w.heap.size, 0, none⟩)], .func (.func 43) #[] #[]] W fun e w' => ∃ v : Int, e = .returned (.int .i64 v) ∧ Hid (OpEnd Fp w Bd (truD d s k0n) m (truE d s k0n) (.returned (.int .i64 v)) w')) := by
          refine Lib.hid ?_
          intro W e1 e2 e3 e4
          have hW : DV Fp W Bd mn ms vs d m := hA.kept (fun j _ _ => by rw [e1])
          have hOW : Oth Fp w W := ⟨e2, e3, e4, by rw [e1]; exact hO.size, fun j hj hn => by rw [e1]; exact hO.block j hj hn⟩
          have c0 : W.cell? ⟨w.heap.size, 0, none⟩ = some (.int .i64 (k0n : Int)) := (World.cell?_of_block (w := ((w.alloc (.cells #[.int .i64 (k0n : Int)] 3)).alloc (.cells #[.pointer (some ⟨b, 0, none⟩)] 74))) (a := ⟨w.heap.size, 0, none⟩) (by rw [e1])).trans k0
          have c1 : W.cell? ⟨w.heap.size + 1, 0, none⟩ = some (.pointer (some ⟨b, 0, none⟩)) := (World.cell?_of_block (w := ((w.alloc (.cells #[.int .i64 (k0n : Int)] 3)).alloc (.cells #[.pointer (some ⟨b, 0, none⟩)] 74))) (a := ⟨w.heap.size + 1, 0, none⟩) (by rw [e1])).trans k1
          by_cases hl0 : d.left = 0
          · refine (die_Truncate hW hl0 _ _).mono ?_
            rintro e w' ⟨rfl, rfl⟩
            exact ⟨8, rfl, Lib.hid ⟨by simp only [truE, hv]; rw [if_neg hor, if_pos hl0], by simp only [truD, hv]; rw [if_neg hor, if_pos hl0]; exact end_die hW hne hOW⟩⟩
          · have C := trunc1_any hW.dec hne (b := b) (by rw [dec_has]; exact hbH) (w.heap.size + 1) w.heap.size k0n (by rw [dec_fs]; omega) ((decW_cell (a := ⟨w.heap.size + 1, 0, none⟩) (by show w.heap.size + 1 ≠ Bd; omega)).trans c1) ((decW_cell (a := ⟨w.heap.size, 0, none⟩) (by show w.heap.size ≠ Bd; omega)).trans c0)
            refine (do_Truncate hW hl0 _ _ _ C).mono ?_
            rintro e w' ⟨rfl, hP⟩
            exact ⟨0, rfl, Lib.hid ⟨by simp only [truE, hv]; rw [if_neg hor, if_neg hl0], by simp only [truD, hv]; rw [if_neg hor, if_neg hl0]; exact (hP.trans hW.decO).trans hOW⟩⟩
        have i1 : decide ((k0n : Int) < 0) = false := by simp
        have i2 : decide (((d.fs b).1.length : Int) < (k0n : Int)) = false := by simpa using h2
        generalize (d.fs b).1.length = L at *
        clear h hne hv he hB hOB hg hd hA hO hf hp hbH hor
        go_enter Try.func17, Try.ntmps17
        go_wp2_with fail
        refine FD.out.mono ?_
        rintro e w1 ⟨rfl, rfl⟩
        go_wp2_with fail
        go_region
        all_goals
          go_wp2_with fail
          refine (DC.out _ ?h1 ?h2 ?h3 ?h4).mono ?_
          case h1 => rfl
          case h2 => rfl
          case h3 => rfl
          case h4 => rfl
          rintro e w2 ⟨v, rfl, H⟩
          go_wp2
          go_ret
          exact H.out
end Go.Proofs.Ytfacobejgmnmpaa
