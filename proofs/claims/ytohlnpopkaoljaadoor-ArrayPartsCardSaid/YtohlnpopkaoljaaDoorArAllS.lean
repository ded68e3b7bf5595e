/-
  THE FUNCTION that layer 8's All hands over, as its contract with a loop's body has it.
-/
import Derived.Test.YtohlnpopkaoljaaDoorArAll
namespace Go.Proofs.YtohlnpopkaoljaaDoor
open Go.RowKit Go.Shelf
attribute [local go_sem] Oper.semAt_some

def q6e (t : Q6) : Array Value := #[.string t.e.key, .agg #[.int .i64 t.e.c.k, .int .i64 t.e.c.n, .string t.e.c.s]]
theorem Col6.at {w : World} {base bl g c : Nat} {C : Nat → Prop} {xs : List Q6} (h : Col6 w base bl C xs g c) (i : Nat) (hi : i < xs.length) (j : Nat) (hj : j < 6) : w.cell? ⟨g, i * 6 + j, none⟩ = xs[i].vals[j]? := by
  rw [h.row.cellAt (i * 6 + j) (by omega)]
  exact q6_get xs i j hi hj
set_option maxHeartbeats 8000000 in
set_option maxRecDepth 100000 in
theorem all_seq {base bl g c : Nat} {C1 : Nat → Prop} {xs : List Q6} (n : Nat) (_hn : 1 ≤ n) (w : World) (h : Col6 w base bl C1 xs g c) (hl : xs.length ≤ 2000) (hs : ∀ t ∈ xs, t.e.key.size ≤ 1000000 ∧ t.e.c.s.size ≤ 1000000) :
    SeqC Fence.wide n Tryd.prog 21 #[.pointer (some ⟨bl, 0, none⟩)] q6e (· = xs) (· <+: xs) (xs.length + 1) w (fun k => k = bl ∨ k = g) := by
  intro l J Jx C0 W hW hZ hC0 hJ hJx hY h0
  have hblw : bl < w.heap.size := World.block_lt_of_cell? _ _ h.var
  have hgw : g < w.heap.size := (h.row.lt g rfl).2
  have HX : Hid (∀ wr, Came C0 W wr → wr.cell? ⟨bl, 0, none⟩ = some (.slice (some ⟨g, 0, none⟩) xs.length c) ∧ ∀ (i : Nat) (hi : i < xs.length) (j : Nat), j < 6 → wr.cell? ⟨g, i * 6 + j, none⟩ = xs[i].vals[j]?) := Lib.hid (fun wr hc =>
    ⟨((hc.cell (a := ⟨bl, 0, none⟩) (Nat.lt_of_lt_of_le hblw hW.size) (hZ _ (.inl rfl))).trans (hW.cell (p := ⟨bl, 0, none⟩) hblw)).trans h.var,
     fun i hi j hj => ((hc.cell (a := ⟨g, i * 6 + j, none⟩) (Nat.lt_of_lt_of_le hgw hW.size) (hZ _ (.inr rfl))).trans (hW.cell (p := ⟨g, i * 6 + j, none⟩) hgw)).trans (h.at i hi j hj)⟩)
  have hvW := (HX.out W (Came.refl _ _)).1
  have HS := Lib.hid hs
  have HJm := Lib.hid hJ
  have HYm := Lib.hid hY
  clear hJ hJx hY hW hZ h hs hblw hgw
  refine callsIn_of_wp Tryd.func21 rfl trivial ?_ rfl
  simp only [Tryd.ntmps21, List.size_toArray, List.length_cons, List.length_nil, Nat.reduceAdd, Nat.reduceSub, Array.replicate_succ, Array.replicate_zero, List.push_toArray, List.append_toArray, List.nil_append, List.cons_append]
  have t1 : Fence.wide.fn 20 := trivial
  have t2 : Fence.wide.fn 22 := trivial
  gi_wp2_with fail
  gi_loopw [7] (fun iv wr => ∃ (k : Nat) (C : Nat → Prop), k ≤ xs.length ∧ iv = .int .i64 k ∧ Hid (J (xs.take k) C wr) ∧ Hid (Came C0 W wr) ∧ Hid (∀ k, C k → C0 k ∨ W.heap.size ≤ k) ∧ Hid (∀ k, C k → k < wr.heap.size))
    (fun iv _ => xs.length - (intOf iv).toNat)
  case atStart =>
    exact ⟨0, C0, by omega, rfl, Lib.hid (by simpa using h0), Lib.hid (Came.refl _ _), Lib.hid (fun k h => .inl h), Lib.hid hC0⟩
  case round =>
    obtain ⟨k, C, hk, rfl, HJ, HC, HF, HCz⟩ := hrel
    by_cases hc : k < xs.length
    · have hcell := (HX.out wr HC.out).2 k hc
      have f0 : wr.cell? ⟨g, k * 6, none⟩ = some (.string xs[k].e.key) := hcell 0 (by omega)
      have f1 : wr.cell? ⟨g, k * 6 + 1, none⟩ = some (.int .i64 xs[k].e.c.k) := hcell 1 (by omega)
      have f2 : wr.cell? ⟨g, k * 6 + 2, none⟩ = some (.int .i64 xs[k].e.c.n) := hcell 2 (by omega)
      have f3 : wr.cell? ⟨g, k * 6 + 3, none⟩ = some (.string xs[k].e.c.s) := hcell 3 (by omega)
      have f4 : wr.cell? ⟨g, k * 6 + 4, none⟩ = some (.pointer xs[k].p) := hcell 4 (by omega)
      have f5 : wr.cell? ⟨g, k * 6 + 5, none⟩ = some (.pointer xs[k].q) := hcell 5 (by omega)
      have HM : Hid (xs.take (k + 1) = xs.take k ++ [xs[k]]) := Lib.hid (List.take_succ_eq_append_getElem hc)
      have HSP : Hid (xs.take k ++ [xs[k]] <+: xs) := Lib.hid (by rw [← HM.out]; exact List.take_prefix _ _)
      have hsz := HS.out xs[k] (List.getElem_mem hc)
      have CK := Lib.hid (fun W => clone_any xs[k].e.key W (by omega))
      have CC := Lib.hid (fun W => aclone_any xs[k].e.c.k xs[k].e.c.n xs[k].e.c.s W hsz.2)
      have hkN : (xs.take k).length < xs.length + 1 := by rw [List.length_take]; omega
      clear hcell hsz
      generalize xs[k] = x at *
      obtain ⟨B, hBe⟩ : ∃ B, B = wr.heap.size := ⟨_, rfl⟩
      gi_wp2_with fail
      refine wpIn_region_any (by kernel_rfl) ?_
      change wpAnyIn _ _ _ _ _ _ _ _ _ (World.drew _)
      have q0 : (World.drew (wr.alloc (.cells #[.string x.e.key, .int .i64 x.e.c.k, .int .i64 x.e.c.n, .string x.e.c.s, .pointer x.p, .pointer x.q] 61))).cell? ⟨B, 0, none⟩ = some (.string x.e.key) := by rw [hBe]; simp [go_sem]
      have q1 : (World.drew (wr.alloc (.cells #[.string x.e.key, .int .i64 x.e.c.k, .int .i64 x.e.c.n, .string x.e.c.s, .pointer x.p, .pointer x.q] 61))).cell? ⟨B, 1, none⟩ = some (.int .i64 x.e.c.k) := by rw [hBe]; simp [go_sem]
      have q2 : (World.drew (wr.alloc (.cells #[.string x.e.key, .int .i64 x.e.c.k, .int .i64 x.e.c.n, .string x.e.c.s, .pointer x.p, .pointer x.q] 61))).cell? ⟨B, 2, none⟩ = some (.int .i64 x.e.c.n) := by rw [hBe]; simp [go_sem]
      have q3 : (World.drew (wr.alloc (.cells #[.string x.e.key, .int .i64 x.e.c.k, .int .i64 x.e.c.n, .string x.e.c.s, .pointer x.p, .pointer x.q] 61))).cell? ⟨B, 3, none⟩ = some (.string x.e.c.s) := by rw [hBe]; simp [go_sem]
      have hba0 : Below wr.heap.size wr (wr.alloc (.cells #[.string x.e.key, .int .i64 x.e.c.k, .int .i64 x.e.c.n, .string x.e.c.s, .pointer x.p, .pointer x.q] 61)) := (Below.refl _ _).alloc (Nat.le_refl _) _
      have hba : Below wr.heap.size wr (World.drew (wr.alloc (.cells #[.string x.e.key, .int .i64 x.e.c.k, .int .i64 x.e.c.n, .string x.e.c.s, .pointer x.p, .pointer x.q] 61))) := ⟨hba0.os, hba0.tape, hba0.output, hba0.size, hba0.block⟩
      have hB : B < (World.drew (wr.alloc (.cells #[.string x.e.key, .int .i64 x.e.c.k, .int .i64 x.e.c.n, .string x.e.c.s, .pointer x.p, .pointer x.q] 61))).heap.size := by rw [hBe]; show wr.heap.size < (wr.alloc _).heap.size; simp
      have HB := Lib.hid hba
      clear hba hba0 f0 f1 f2 f3 f4 f5
      rw [← hBe]
      clear hBe
      generalize World.drew (wr.alloc (.cells #[.string x.e.key, .int .i64 x.e.c.k, .int .i64 x.e.c.n, .string x.e.c.s, .pointer x.p, .pointer x.q] 61)) = V at *
      refine wpAnyIn_take (i := 0) (oi := _) (v := ?_) rfl rfl (by kernel_rfl) (by kernel_rfl) (by kernel_rfl) (fun _ _ _ h => h) ⟨Or.inl ⟨by rfl, ?_⟩, fun _ => rfl⟩ ?_
      rotate_left
      · (intro w; go_simp; try with_reducible rfl)
      try simp only [List.getElem_toArray, List.getElem_cons_zero, Act.put, List.setIfInBounds_toArray, List.set_cons_zero, List.set_cons_succ]
      refine wpAnyIn_take (i := 1) (oi := _) (v := ?_) rfl rfl (by kernel_rfl) (by kernel_rfl) (by kernel_rfl) (fun _ _ _ h => h) ⟨Or.inl ⟨by rfl, ?_⟩, fun _ => rfl⟩ ?_
      rotate_left
      · (intro w; go_simp; try with_reducible rfl)
      try simp only [List.getElem_toArray, List.getElem_cons_zero, List.getElem_cons_succ, Act.put, List.setIfInBounds_toArray, List.set_cons_zero, List.set_cons_succ]
      refine wpAnyIn_take (i := 4) (oi := _) (v := ?_) rfl rfl (by kernel_rfl) (by kernel_rfl) (by kernel_rfl) (fun _ _ _ h => h) ⟨Or.inl ⟨by rfl, ?_⟩, fun _ => rfl⟩ ?_
      rotate_left
      · (intro w; go_simp; try with_reducible rfl)
      try simp only [List.getElem_toArray, List.getElem_cons_zero, List.getElem_cons_succ, Act.put, List.setIfInBounds_toArray, List.set_cons_zero, List.set_cons_succ]
      refine wpAnyIn_ready (rs := [2, 5]) (by kernel_rfl) (by simp) ?_
      refine AllReadyIn.cons (o := _) rfl (fun K hK => ?_) ?_
      · go_simp
        refine hK _ _ ?_
        clear hK K
        try simp only [List.getElem_toArray, List.getElem_cons_zero, List.getElem_cons_succ, Act.put, List.setIfInBounds_toArray, List.set_cons_zero, List.set_cons_succ]
        refine wpAnyIn_ready (rs := [3, 5]) (by kernel_rfl) (by simp) ?_
        refine AllReadyIn.cons (o := _) rfl (fun K hK => ?_) ?_
        · go_simp
          refine (callsIn_wide.2 (CK.out _)).mono ?_
          rintro e w9 ⟨rfl, hb9⟩
          refine hK _ _ ?_
          clear hK K
          try simp only [List.getElem_toArray, List.getElem_cons_zero, List.getElem_cons_succ, Act.put, List.setIfInBounds_toArray, List.set_cons_zero, List.set_cons_succ]
          replace q0 := (hb9.cell (p := ⟨B, 0, none⟩) hB).trans q0
          replace q1 := (hb9.cell (p := ⟨B, 1, none⟩) hB).trans q1
          replace q2 := (hb9.cell (p := ⟨B, 2, none⟩) hB).trans q2
          replace q3 := (hb9.cell (p := ⟨B, 3, none⟩) hB).trans q3
          replace HB := Lib.hid (HB.out.trans (hb9.mono (Nat.le_trans HB.out.size (Nat.le_refl _))))
          replace hB := Nat.lt_of_lt_of_le hB hb9.size
          clear hb9
          refine wpAnyIn_ready (rs := [5]) (by kernel_rfl) (by simp) ?_
          refine AllReadyIn.cons (o := _) rfl (fun K hK => ?_) ?_
          · go_simp
            refine hK _ _ ?_
            clear hK K
            try simp only [List.getElem_toArray, List.getElem_cons_zero, List.getElem_cons_succ, Act.put, List.setIfInBounds_toArray, List.set_cons_zero, List.set_cons_succ]
            refine wpAnyIn_ready (rs := [6]) (by kernel_rfl) (by simp) ?_
            refine AllReadyIn.cons (o := _) rfl (fun K hK => ?_) ?_
            · go_simp
              refine (callsIn_wide.2 (CC.out _)).mono ?_
              rintro e w10 ⟨rfl, hb10⟩
              refine hK _ _ ?_
              clear hK K
              try simp only [List.getElem_toArray, List.getElem_cons_zero, List.getElem_cons_succ, Act.put, List.setIfInBounds_toArray, List.set_cons_zero, List.set_cons_succ]
              replace q0 := (hb10.cell (p := ⟨B, 0, none⟩) hB).trans q0
              replace q1 := (hb10.cell (p := ⟨B, 1, none⟩) hB).trans q1
              replace q2 := (hb10.cell (p := ⟨B, 2, none⟩) hB).trans q2
              replace q3 := (hb10.cell (p := ⟨B, 3, none⟩) hB).trans q3
              replace HB := Lib.hid (HB.out.trans (hb10.mono (Nat.le_trans HB.out.size (Nat.le_refl _))))
              replace hB := Nat.lt_of_lt_of_le hB hb10.size
              clear hb10
              refine wpAnyIn_ready (rs := [7]) (by kernel_rfl) (by simp) ?_
              refine AllReadyIn.cons (o := _) rfl (fun K hK => ?_) ?_
              · have HJ9 := HJm.out _ _ _ _ HJ.out (Same.below HB.out HCz.out)
                have HC9 := Lib.hid (HC.out.trans (Came.of_below HB.out (Nat.le_refl _)) (fun _ h => Or.inl h))
                obtain ⟨fn, tmps, assign, body, hy, hR⟩ := HYm.out (xs.take k) x C _ HJ9 HC9.out HF.out hkN HSP.out
                dsimp only [q6e] at hy
                go_simp
                refine hR.mono ?_
                clear hR hy HJ9 HJ HB
                rintro e W3 ⟨C', hf', hbd', hc', (⟨rfl, hJ3⟩ | ⟨rfl, hJ3⟩)⟩
                · refine hK _ _ ?_
                  clear hK K
                  try simp only [List.getElem_toArray, List.getElem_cons_zero, List.getElem_cons_succ, Act.put, List.setIfInBounds_toArray, List.set_cons_zero, List.set_cons_succ]
                  refine wpAnyIn_take (i := 8) (oi := _) (v := ?_) rfl rfl (by kernel_rfl) (by kernel_rfl) (by kernel_rfl) (fun _ _ _ h => h) ⟨Or.inl ⟨by rfl, ?_⟩, fun _ => rfl⟩ ?_
                  rotate_left
                  · (intro w; go_simp; try with_reducible rfl)
                  try simp only [List.getElem_toArray, List.getElem_cons_zero, List.getElem_cons_succ, Act.put, List.setIfInBounds_toArray, List.set_cons_zero, List.set_cons_succ]
                  refine wpAnyIn_done (by kernel_rfl) ?_ _
                  have HREL : Hid (∃ (k' : Nat) (C : Nat → Prop), k' ≤ xs.length ∧ (Value.int .i64 ((k : Int) + 1)) = .int .i64 k' ∧ Hid (J (xs.take k') C W3) ∧ Hid (Came C0 W W3) ∧ Hid (∀ k, C k → C0 k ∨ W.heap.size ≤ k) ∧ Hid (∀ k, C k → k < W3.heap.size)) := Lib.hid
                    ⟨k + 1, C', hc, by go_num, Lib.hid (by rw [HM.out]; exact hJ3), Lib.hid (HC9.out.trans hc' (fun k h => HF.out k h)), Lib.hid (fun k h => (hf' k h).elim (HF.out k) (fun h2 => .inr (Nat.le_trans HC9.out.size h2))), Lib.hid hbd'⟩
                  clear hf' hbd' hc' hJ3 HC9 HM HSP
                  gi_wp2_with fail
                  exact ⟨HREL.out, by simp [intOf]; omega⟩
                · refine hK _ _ ?_
                  clear hK K
                  try simp only [List.getElem_toArray, List.getElem_cons_zero, List.getElem_cons_succ, Act.put, List.setIfInBounds_toArray, List.set_cons_zero, List.set_cons_succ]
                  refine wpAnyIn_take (i := 8) (oi := _) (v := ?_) rfl rfl (by kernel_rfl) (by kernel_rfl) (by kernel_rfl) (fun _ _ _ h => h) ⟨Or.inl ⟨by rfl, ?_⟩, fun _ => rfl⟩ ?_
                  rotate_left
                  · (intro w; go_simp; try with_reducible rfl)
                  try simp only [List.getElem_toArray, List.getElem_cons_zero, List.getElem_cons_succ, Act.put, List.setIfInBounds_toArray, List.set_cons_zero, List.set_cons_succ]
                  refine wpAnyIn_done (by kernel_rfl) ?_ _
                  gi_wp2_with fail
                  refine bodyPost_ret (results_none rfl _ _ _) rfl ?_
                  exact ⟨⟨_, rfl⟩, HC9.out.trans hc' (fun k h => HF.out k h), .inr ⟨_, C', HSP.out, hJ3⟩⟩
              exact AllReadyIn.nil
            exact AllReadyIn.nil
          exact AllReadyIn.nil
        refine AllReadyIn.cons (o := _) rfl (fun K hK => ?_) ?_
        · go_simp
          refine hK _ _ ?_
          clear hK K
          try simp only [List.getElem_toArray, List.getElem_cons_zero, List.getElem_cons_succ, Act.put, List.setIfInBounds_toArray, List.set_cons_zero, List.set_cons_succ]
          refine wpAnyIn_ready (rs := [3]) (by kernel_rfl) (by simp) ?_
          refine AllReadyIn.cons (o := _) rfl (fun K hK => ?_) ?_
          · go_simp
            refine (callsIn_wide.2 (CK.out _)).mono ?_
            rintro e w9 ⟨rfl, hb9⟩
            refine hK _ _ ?_
            clear hK K
            try simp only [List.getElem_toArray, List.getElem_cons_zero, List.getElem_cons_succ, Act.put, List.setIfInBounds_toArray, List.set_cons_zero, List.set_cons_succ]
            replace q0 := (hb9.cell (p := ⟨B, 0, none⟩) hB).trans q0
            replace q1 := (hb9.cell (p := ⟨B, 1, none⟩) hB).trans q1
            replace q2 := (hb9.cell (p := ⟨B, 2, none⟩) hB).trans q2
            replace q3 := (hb9.cell (p := ⟨B, 3, none⟩) hB).trans q3
            replace HB := Lib.hid (HB.out.trans (hb9.mono (Nat.le_trans HB.out.size (Nat.le_refl _))))
            replace hB := Nat.lt_of_lt_of_le hB hb9.size
            clear hb9
            refine wpAnyIn_ready (rs := [6]) (by kernel_rfl) (by simp) ?_
            refine AllReadyIn.cons (o := _) rfl (fun K hK => ?_) ?_
            · go_simp
              refine (callsIn_wide.2 (CC.out _)).mono ?_
              rintro e w10 ⟨rfl, hb10⟩
              refine hK _ _ ?_
              clear hK K
              try simp only [List.getElem_toArray, List.getElem_cons_zero, List.getElem_cons_succ, Act.put, List.setIfInBounds_toArray, List.set_cons_zero, List.set_cons_succ]
              replace q0 := (hb10.cell (p := ⟨B, 0, none⟩) hB).trans q0
              replace q1 := (hb10.cell (p := ⟨B, 1, none⟩) hB).trans q1
              replace q2 := (hb10.cell (p := ⟨B, 2, none⟩) hB).trans q2
              replace q3 := (hb10.cell (p := ⟨B, 3, none⟩) hB).trans q3
              replace HB := Lib.hid (HB.out.trans (hb10.mono (Nat.le_trans HB.out.size (Nat.le_refl _))))
              replace hB := Nat.lt_of_lt_of_le hB hb10.size
              clear hb10
              refine wpAnyIn_ready (rs := [7]) (by kernel_rfl) (by simp) ?_
              refine AllReadyIn.cons (o := _) rfl (fun K hK => ?_) ?_
              · have HJ9 := HJm.out _ _ _ _ HJ.out (Same.below HB.out HCz.out)
                have HC9 := Lib.hid (HC.out.trans (Came.of_below HB.out (Nat.le_refl _)) (fun _ h => Or.inl h))
                obtain ⟨fn, tmps, assign, body, hy, hR⟩ := HYm.out (xs.take k) x C _ HJ9 HC9.out HF.out hkN HSP.out
                dsimp only [q6e] at hy
                go_simp
                refine hR.mono ?_
                clear hR hy HJ9 HJ HB
                rintro e W3 ⟨C', hf', hbd', hc', (⟨rfl, hJ3⟩ | ⟨rfl, hJ3⟩)⟩
                · refine hK _ _ ?_
                  clear hK K
                  try simp only [List.getElem_toArray, List.getElem_cons_zero, List.getElem_cons_succ, Act.put, List.setIfInBounds_toArray, List.set_cons_zero, List.set_cons_succ]
                  refine wpAnyIn_take (i := 8) (oi := _) (v := ?_) rfl rfl (by kernel_rfl) (by kernel_rfl) (by kernel_rfl) (fun _ _ _ h => h) ⟨Or.inl ⟨by rfl, ?_⟩, fun _ => rfl⟩ ?_
                  rotate_left
                  · (intro w; go_simp; try with_reducible rfl)
                  try simp only [List.getElem_toArray, List.getElem_cons_zero, List.getElem_cons_succ, Act.put, List.setIfInBounds_toArray, List.set_cons_zero, List.set_cons_succ]
                  refine wpAnyIn_done (by kernel_rfl) ?_ _
                  have HREL : Hid (∃ (k' : Nat) (C : Nat → Prop), k' ≤ xs.length ∧ (Value.int .i64 ((k : Int) + 1)) = .int .i64 k' ∧ Hid (J (xs.take k') C W3) ∧ Hid (Came C0 W W3) ∧ Hid (∀ k, C k → C0 k ∨ W.heap.size ≤ k) ∧ Hid (∀ k, C k → k < W3.heap.size)) := Lib.hid
                    ⟨k + 1, C', hc, by go_num, Lib.hid (by rw [HM.out]; exact hJ3), Lib.hid (HC9.out.trans hc' (fun k h => HF.out k h)), Lib.hid (fun k h => (hf' k h).elim (HF.out k) (fun h2 => .inr (Nat.le_trans HC9.out.size h2))), Lib.hid hbd'⟩
                  clear hf' hbd' hc' hJ3 HC9 HM HSP
                  gi_wp2_with fail
                  exact ⟨HREL.out, by simp [intOf]; omega⟩
                · refine hK _ _ ?_
                  clear hK K
                  try simp only [List.getElem_toArray, List.getElem_cons_zero, List.getElem_cons_succ, Act.put, List.setIfInBounds_toArray, List.set_cons_zero, List.set_cons_succ]
                  refine wpAnyIn_take (i := 8) (oi := _) (v := ?_) rfl rfl (by kernel_rfl) (by kernel_rfl) (by kernel_rfl) (fun _ _ _ h => h) ⟨Or.inl ⟨by rfl, ?_⟩, fun _ => rfl⟩ ?_
                  rotate_left
                  · (intro w; go_simp; try with_reducible rfl)
                  try simp only [List.getElem_toArray, List.getElem_cons_zero, List.getElem_cons_succ, Act.put, List.setIfInBounds_toArray, List.set_cons_zero, List.set_cons_succ]
                  refine wpAnyIn_done (by kernel_rfl) ?_ _
                  gi_wp2_with fail
                  refine bodyPost_ret (results_none rfl _ _ _) rfl ?_
                  exact ⟨⟨_, rfl⟩, HC9.out.trans hc' (fun k h => HF.out k h), .inr ⟨_, C', HSP.out, hJ3⟩⟩
              exact AllReadyIn.nil
            exact AllReadyIn.nil
          exact AllReadyIn.nil
        exact AllReadyIn.nil
      refine AllReadyIn.cons (o := _) rfl (fun K hK => ?_) ?_
      · go_simp
        refine hK _ _ ?_
        clear hK K
        try simp only [List.getElem_toArray, List.getElem_cons_zero, List.getElem_cons_succ, Act.put, List.setIfInBounds_toArray, List.set_cons_zero, List.set_cons_succ]
        refine wpAnyIn_ready (rs := [2]) (by kernel_rfl) (by simp) ?_
        refine AllReadyIn.cons (o := _) rfl (fun K hK => ?_) ?_
        · go_simp
          refine hK _ _ ?_
          clear hK K
          try simp only [List.getElem_toArray, List.getElem_cons_zero, List.getElem_cons_succ, Act.put, List.setIfInBounds_toArray, List.set_cons_zero, List.set_cons_succ]
          refine wpAnyIn_ready (rs := [3]) (by kernel_rfl) (by simp) ?_
          refine AllReadyIn.cons (o := _) rfl (fun K hK => ?_) ?_
          · go_simp
            refine (callsIn_wide.2 (CK.out _)).mono ?_
            rintro e w9 ⟨rfl, hb9⟩
            refine hK _ _ ?_
            clear hK K
            try simp only [List.getElem_toArray, List.getElem_cons_zero, List.getElem_cons_succ, Act.put, List.setIfInBounds_toArray, List.set_cons_zero, List.set_cons_succ]
            replace q0 := (hb9.cell (p := ⟨B, 0, none⟩) hB).trans q0
            replace q1 := (hb9.cell (p := ⟨B, 1, none⟩) hB).trans q1
            replace q2 := (hb9.cell (p := ⟨B, 2, none⟩) hB).trans q2
            replace q3 := (hb9.cell (p := ⟨B, 3, none⟩) hB).trans q3
            replace HB := Lib.hid (HB.out.trans (hb9.mono (Nat.le_trans HB.out.size (Nat.le_refl _))))
            replace hB := Nat.lt_of_lt_of_le hB hb9.size
            clear hb9
            refine wpAnyIn_ready (rs := [6]) (by kernel_rfl) (by simp) ?_
            refine AllReadyIn.cons (o := _) rfl (fun K hK => ?_) ?_
            · go_simp
              refine (callsIn_wide.2 (CC.out _)).mono ?_
              rintro e w10 ⟨rfl, hb10⟩
              refine hK _ _ ?_
              clear hK K
              try simp only [List.getElem_toArray, List.getElem_cons_zero, List.getElem_cons_succ, Act.put, List.setIfInBounds_toArray, List.set_cons_zero, List.set_cons_succ]
              replace q0 := (hb10.cell (p := ⟨B, 0, none⟩) hB).trans q0
              replace q1 := (hb10.cell (p := ⟨B, 1, none⟩) hB).trans q1
              replace q2 := (hb10.cell (p := ⟨B, 2, none⟩) hB).trans q2
              replace q3 := (hb10.cell (p := ⟨B, 3, none⟩) hB).trans q3
              replace HB := Lib.hid (HB.out.trans (hb10.mono (Nat.le_trans HB.out.size (Nat.le_refl _))))
              replace hB := Nat.lt_of_lt_of_le hB hb10.size
              clear hb10
              refine wpAnyIn_ready (rs := [7]) (by kernel_rfl) (by simp) ?_
              refine AllReadyIn.cons (o := _) rfl (fun K hK => ?_) ?_
              · have HJ9 := HJm.out _ _ _ _ HJ.out (Same.below HB.out HCz.out)
                have HC9 := Lib.hid (HC.out.trans (Came.of_below HB.out (Nat.le_refl _)) (fun _ h => Or.inl h))
                obtain ⟨fn, tmps, assign, body, hy, hR⟩ := HYm.out (xs.take k) x C _ HJ9 HC9.out HF.out hkN HSP.out
                dsimp only [q6e] at hy
                go_simp
                refine hR.mono ?_
                clear hR hy HJ9 HJ HB
                rintro e W3 ⟨C', hf', hbd', hc', (⟨rfl, hJ3⟩ | ⟨rfl, hJ3⟩)⟩
                · refine hK _ _ ?_
                  clear hK K
                  try simp only [List.getElem_toArray, List.getElem_cons_zero, List.getElem_cons_succ, Act.put, List.setIfInBounds_toArray, List.set_cons_zero, List.set_cons_succ]
                  refine wpAnyIn_take (i := 8) (oi := _) (v := ?_) rfl rfl (by kernel_rfl) (by kernel_rfl) (by kernel_rfl) (fun _ _ _ h => h) ⟨Or.inl ⟨by rfl, ?_⟩, fun _ => rfl⟩ ?_
                  rotate_left
                  · (intro w; go_simp; try with_reducible rfl)
                  try simp only [List.getElem_toArray, List.getElem_cons_zero, List.getElem_cons_succ, Act.put, List.setIfInBounds_toArray, List.set_cons_zero, List.set_cons_succ]
                  refine wpAnyIn_done (by kernel_rfl) ?_ _
                  have HREL : Hid (∃ (k' : Nat) (C : Nat → Prop), k' ≤ xs.length ∧ (Value.int .i64 ((k : Int) + 1)) = .int .i64 k' ∧ Hid (J (xs.take k') C W3) ∧ Hid (Came C0 W W3) ∧ Hid (∀ k, C k → C0 k ∨ W.heap.size ≤ k) ∧ Hid (∀ k, C k → k < W3.heap.size)) := Lib.hid
                    ⟨k + 1, C', hc, by go_num, Lib.hid (by rw [HM.out]; exact hJ3), Lib.hid (HC9.out.trans hc' (fun k h => HF.out k h)), Lib.hid (fun k h => (hf' k h).elim (HF.out k) (fun h2 => .inr (Nat.le_trans HC9.out.size h2))), Lib.hid hbd'⟩
                  clear hf' hbd' hc' hJ3 HC9 HM HSP
                  gi_wp2_with fail
                  exact ⟨HREL.out, by simp [intOf]; omega⟩
                · refine hK _ _ ?_
                  clear hK K
                  try simp only [List.getElem_toArray, List.getElem_cons_zero, List.getElem_cons_succ, Act.put, List.setIfInBounds_toArray, List.set_cons_zero, List.set_cons_succ]
                  refine wpAnyIn_take (i := 8) (oi := _) (v := ?_) rfl rfl (by kernel_rfl) (by kernel_rfl) (by kernel_rfl) (fun _ _ _ h => h) ⟨Or.inl ⟨by rfl, ?_⟩, fun _ => rfl⟩ ?_
                  rotate_left
                  · (intro w; go_simp; try with_reducible rfl)
                  try simp only [List.getElem_toArray, List.getElem_cons_zero, List.getElem_cons_succ, Act.put, List.setIfInBounds_toArray, List.set_cons_zero, List.set_cons_succ]
                  refine wpAnyIn_done (by kernel_rfl) ?_ _
                  gi_wp2_with fail
                  refine bodyPost_ret (results_none rfl _ _ _) rfl ?_
                  exact ⟨⟨_, rfl⟩, HC9.out.trans hc' (fun k h => HF.out k h), .inr ⟨_, C', HSP.out, hJ3⟩⟩
              exact AllReadyIn.nil
            exact AllReadyIn.nil
          exact AllReadyIn.nil
        exact AllReadyIn.nil
      exact AllReadyIn.nil
    · have hkn : k = xs.length := by omega
      subst hkn
      gi_wp2_with fail
      go_end0
      exact ⟨⟨_, rfl⟩, HC.out, .inl ⟨xs, C, rfl, by have := HJ.out; rwa [List.take_length] at this⟩⟩
end Go.Proofs.YtohlnpopkaoljaaDoor
