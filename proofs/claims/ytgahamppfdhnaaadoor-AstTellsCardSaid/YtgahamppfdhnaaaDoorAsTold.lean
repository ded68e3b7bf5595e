/-
  CONTRACTS of the laws' own told, Grow of layer 12.
-/
import Derived.Test.YtgahamppfdhnaaaDoorAsGrow
namespace Go.Proofs.YtgahamppfdhnaaaDoor
open Go.RowKit

theorem Tryd.infoRNode : (Tryd.prog.info? 28).map (fun i => (i.zero, i.size, i.bytes)) = some (some (.agg #[.string ⟨#[]⟩, .string ⟨#[]⟩, .int .i64 0, .slice none 0 0]), 4, 64) := by kernel_rfl
def ToldOk (a : AT) : Prop := ∀ (w : World) (B : Nat → Prop), TV w B a.nd a.ks → (er a).size ≤ 1000 → Calls Tryd.prog 20 #[a.nd.val] w (GrPost (er a) w)
theorem told_size_kid {l : List AT} {a : AT} (h : a ∈ l) : (er a).size ≤ sizeL (erL l) := by
  induction l with
  | nil => cases h
  | cons x l ih =>
    rw [erL, sizeL]
    rcases List.mem_cons.1 h with rfl | h
    · omega
    · have := ih h; omega
theorem told_sizeL_len : ∀ l : List T, l.length ≤ sizeL l
  | [] => Nat.zero_le _
  | t :: l => by
    have := told_sizeL_len l
    have : 1 ≤ t.size := by cases t; rw [T.size]; omega
    rw [sizeL, List.length_cons]; omega
theorem erL_take (ks : List AT) (k : Nat) (h : k < ks.length) : erL (ks.take (k + 1)) = erL (ks.take k) ++ [er ks[k]] := by
  rw [erL_map, erL_map, List.take_succ_eq_append_getElem h, List.map_append]; rfl
theorem nodeAt_new (w : World) (ty : TypeId) (n : Nd) : NodeAt (w.alloc (.cells #[.string n.op, .string n.tx, .int .i64 n.pl, .slice n.kp n.kn n.kc] ty)) w.heap.size 0 n :=
  ⟨by simp [go_sem], by simp [go_sem], by simp [go_sem], by simp [go_sem]⟩
set_option maxHeartbeats 4000000 in
set_option maxRecDepth 100000 in
theorem told_one (a : AT) (ih : ∀ k ∈ a.ks, ToldOk k) : ToldOk a := by
  intro w B hT hsz
  obtain ⟨op, tx, pl, kp, kc, g, o, ks⟩ := a
  obtain ⟨i0, hi0, hz0, hz1, hz2⟩ := info_parts Tryd.infoRNode
  simp only [AT.nd, AT.ks, Nd.val] at *
  rw [er] at hsz ⊢
  have hkl : ks.length ≤ 1000 := by
    have := told_sizeL_len (erL ks)
    rw [erL_len] at this
    rw [T.size] at hsz; omega
  have hks : ∀ k ∈ ks, (er k).size ≤ 1000 := fun k hk => by
    have := told_size_kid hk
    rw [T.size] at hsz; omega
  obtain ⟨_, hkd, hmem⟩ := hT
  simp only at hkd
  have HKD := Lib.hid hkd
  have HMEM := Lib.hid hmem
  have HIH := Lib.hid ih
  have HKS := Lib.hid hks
  have b1 : Below w.heap.size w (w.alloc (.cells #[.string op, .string tx, .int .i64 pl, .slice kp ks.length kc] 25)) := (Below.refl _ _).alloc (Nat.le_refl _) _
  have z1 : (w.alloc (.cells #[.string op, .string tx, .int .i64 pl, .slice kp ks.length kc] 25)).heap.size = w.heap.size + 1 := by simp
  have hg3 : GrSt 28 (w.alloc (.cells #[.string op, .string tx, .int .i64 pl, .slice kp ks.length kc] 25)) (w.heap.size + 2) op tx pl [] [] (.slice none 0 0) (((w.alloc (.cells #[.string op, .string tx, .int .i64 pl, .slice kp ks.length kc] 25)).alloc (.cells #[.string ⟨#[]⟩, .string ⟨#[]⟩, .int .i64 0, .slice none 0 0] 28)).alloc (.cells #[.string op, .string tx, .int .i64 pl, .slice none 0 0] 28)) := by
    have hx := as_heap_alloc ((w.alloc (.cells #[.string op, .string tx, .int .i64 pl, .slice kp ks.length kc] 25)).alloc (.cells #[.string ⟨#[]⟩, .string ⟨#[]⟩, .int .i64 0, .slice none 0 0] 28)) (.cells #[.string op, .string tx, .int .i64 pl, .slice none 0 0] 28)
    have hy := as_heap_alloc (w.alloc (.cells #[.string op, .string tx, .int .i64 pl, .slice kp ks.length kc] 25)) (.cells #[.string ⟨#[]⟩, .string ⟨#[]⟩, .int .i64 0, .slice none 0 0] 28)
    refine ⟨?_, by rw [z1], World.ownsRow_nil _ _ _ _, rfl, ((Below.refl _ _).alloc (Nat.le_refl _) _).alloc (by simp) _, ?_⟩
    · rw [World.size_alloc, World.size_alloc] at hx; exact hx
    · exact (Below.heap_alloc _ _ _ (by simp)).trans hy
  have HG3 := Lib.hid hg3
  have HB1 := Lib.hid b1
  clear hkd hmem ih hks hsz hg3 b1
  go_enter Tryd.func20, Tryd.ntmps20
  go_wp2_with fail
  generalize ((w.alloc (.cells #[.string op, .string tx, .int .i64 pl, .slice kp ks.length kc] 25)).alloc (.cells #[.string ⟨#[]⟩, .string ⟨#[]⟩, .int .i64 0, .slice none 0 0] 28)).alloc (.cells #[.string op, .string tx, .int .i64 pl, .slice none 0 0] 28) = W3 at *
  generalize w.alloc (.cells #[.string op, .string tx, .int .i64 pl, .slice kp ks.length kc] 25) = W0 at *
  obtain ⟨nb, hnb⟩ : ∃ nb, w.heap.size + 2 = nb := ⟨_, rfl⟩
  rw [hnb] at HG3
  try rw [hnb]
  have HNB := Lib.hid hnb
  go_loopw [16] (fun iv wr => ∃ (k : Nat) (nds : List Nd) (v : Value), k ≤ ks.length ∧ iv = .int .i64 (k : Int) ∧ Hid (GrSt 28 W0 nb op tx pl (erL (ks.take k)) nds v wr)) (fun iv _ => ks.length - (intOf iv).toNat)
  case atStart => exact ⟨0, [], _, Nat.zero_le _, by simp, by simpa [erL] using HG3⟩
  case round =>
    obtain ⟨k, nds, v, hk, rfl, HG⟩ := hrel
    clear HG3
    have HBW := Lib.hid (HB1.out.trans (HG.out.bel.mono (by omega : w.heap.size ≤ W0.heap.size)))
    by_cases hc : k < ks.length
    · have hki : (k : Int) < (ks.length : Int) := by omega
      obtain ⟨kg, ko, rfl, hkk⟩ : ∃ kg ko, kp = some ⟨kg, ko, none⟩ ∧ ∀ (i : Nat) (h : i < ks.length), ks[i].g = kg ∧ ks[i].o = ko + i * 4 := by
        rcases HKD.out with rfl | h
        · simp at hc
        · exact h
      obtain ⟨eg, eo⟩ := hkk k hc
      have hmk := (HMEM.out.all _ (List.getElem_mem hc)).next HBW.out
      obtain ⟨_, ⟨c0, c1, c2, c3⟩, hkd2, hmem2⟩ := Mem.iff.1 hmk
      rw [eg, eo] at c0 c1 c2 c3
      have HTV : Hid (∀ W, Below wr.heap.size wr W → TV W B ks[k].nd ks[k].ks) := Lib.hid fun W hW => TV.next ⟨by cases ks[k]; rfl, hkd2, hmem2⟩ hW
      have HC := Lib.hid (HIH.out ks[k] (List.getElem_mem hc))
      have HSZ := Lib.hid (HKS.out _ (List.getElem_mem hc))
      have HET := Lib.hid (erL_take ks k hc)
      have hnl : nds.length ≤ 1000 := by
        have h1 := HG.out.trs.len
        rw [erL_len, List.length_take] at h1
        omega
      clear hmk hkd2 hmem2 eg eo hkk
      generalize ks[k] = ak at *
      obtain ⟨⟨nop, ntx, npl, nkp, nkn, nkc⟩, hnd⟩ : ∃ n, n = ak.nd := ⟨_, rfl⟩
      rw [← hnd] at c0 c1 c2 c3 HTV
      have HND := Lib.hid hnd
      simp only at c0 c1 c2 c3
      clear hnd
      have hba : Below wr.heap.size wr (wr.alloc (.cells #[.string nop, .string ntx, .int .i64 npl, .slice nkp nkn nkc] 25)) := (Below.refl _ _).alloc (Nat.le_refl _) _
      have n4 := nodeAt_new wr 25 ⟨nop, ntx, npl, nkp, nkn, nkc⟩
      simp only at n4
      have HG4 := Lib.hid (HG.out.next hba)
      have HBA := Lib.hid hba
      have hlt4 : wr.heap.size < (wr.alloc (.cells #[.string nop, .string ntx, .int .i64 npl, .slice nkp nkn nkc] 25)).heap.size := by simp
      clear hba
      go_wp2_with fail
      generalize wr.alloc (.cells #[.string nop, .string ntx, .int .i64 npl, .slice nkp nkn nkc] 25) = W4 at *
      obtain ⟨kb, hkb⟩ : ∃ kb, wr.heap.size = kb := ⟨_, rfl⟩
      rw [hkb] at n4 hlt4
      try rw [hkb]
      have HKB := Lib.hid hkb
      clear hkb
      refine wp_region_L (st := [7]) (S := fun w' => GC nb v w' ∧ NodeAt w' kb 0 ⟨nop, ntx, npl, nkp, nkn, nkc⟩) (by kernel_rfl) (⟨HG4.out.gc, n4.kept rfl⟩) (fun hHeld => ?_)
      refine wpAnyL_take (i := 0) (oi := _) (v := ?_) rfl (by kernel_rfl) (by kernel_rfl) (by kernel_rfl) (by decide) (by kernel_rfl) (by kernel_rfl) (by kernel_rfl) (fun _ _ _ h => h) (Or.inl ⟨by rfl, ?_⟩) (by assumption) ?_
      rotate_left
      · (intro w hSw; obtain ⟨⟨q0, q1⟩, q2, q3, q4, q5⟩ := hSw; simp only at q2 q3 q4 q5; go_simp; try with_reducible rfl)
      try simp only [List.getElem_toArray, List.getElem_cons_zero, Act.put, List.setIfInBounds_toArray, List.set_cons_zero, List.set_cons_succ]
      refine wpAnyL_take (i := 1) (oi := _) (v := ?_) rfl (by kernel_rfl) (by kernel_rfl) (by kernel_rfl) (by decide) (by kernel_rfl) (by kernel_rfl) (by kernel_rfl) (fun _ _ _ h => h) (Or.inl ⟨by rfl, ?_⟩) (by assumption) ?_
      rotate_left
      · (intro w hSw; obtain ⟨⟨q0, q1⟩, q2, q3, q4, q5⟩ := hSw; simp only at q2 q3 q4 q5; go_simp; try with_reducible rfl)
      try simp only [List.getElem_toArray, List.getElem_cons_zero, List.getElem_cons_succ, Act.put, List.setIfInBounds_toArray, List.set_cons_zero, List.set_cons_succ]
      refine wpAnyL_take (i := 2) (oi := _) (v := ?_) rfl (by kernel_rfl) (by kernel_rfl) (by kernel_rfl) (by decide) (by kernel_rfl) (by kernel_rfl) (by kernel_rfl) (fun _ _ _ h => h) (Or.inl ⟨by rfl, ?_⟩) (by assumption) ?_
      rotate_left
      · (intro w hSw; obtain ⟨⟨q0, q1⟩, q2, q3, q4, q5⟩ := hSw; simp only at q2 q3 q4 q5; go_simp; try with_reducible rfl)
      try simp only [List.getElem_toArray, List.getElem_cons_zero, List.getElem_cons_succ, Act.put, List.setIfInBounds_toArray, List.set_cons_zero, List.set_cons_succ]
      refine wpAnyL_ready (rs := [3]) (by kernel_rfl) (by simp) ?_
      refine AllReadyL.cons (o := _) rfl (fun K hK => ?_) AllReadyL.nil
      go_simp
      have HCC := HC.out W4.drew B
      rw [← HND.out] at HCC
      have HCC := HCC (HTV.out _ HBA.out.drew) HSZ.out
      simp only [Nd.val] at HCC
      refine HCC.mono ?_
      rintro e w8 ⟨nd, ks8, rfl, htv8, hnt8, hb8⟩
      have HT8 := Lib.hid (show Tr w8 (fun g => W4.drew.heap.size ≤ g) (er ak) nd from ⟨ks8, htv8, hnt8⟩)
      have HB8 := Lib.hid hb8
      have HG8 := Lib.hid (HG4.out.drew.next hb8)
      have n8 := n4.kept (w' := w8) (hb8.block kb hlt4)
      clear htv8 hnt8 hb8 HCC
      simp only [Nd.val]
      refine hK.out _ _ (⟨HG8.out.gc, n8⟩) (fun hHeld => ?_)
      clear hK K
      try simp only [List.getElem_toArray, List.getElem_cons_zero, List.getElem_cons_succ, Act.put, List.setIfInBounds_toArray, List.set_cons_zero, List.set_cons_succ]
      refine wpAnyL_ready (rs := [4]) (by kernel_rfl) (by simp) ?_
      refine AllReadyL.cons (o := _) rfl (fun K hK => ?_) AllReadyL.nil
      go_simp
      have hal8 : Below w8.heap.size w8 (w8.alloc (.cells #[.string nd.op, .string nd.tx, .int .i64 nd.pl, .slice nd.kp nd.kn nd.kc] 28)) := (Below.refl _ _).alloc (Nat.le_refl _) _
      have HG9 := Lib.hid (HG8.out.next hal8)
      have n9 := n8.kept (hal8.block kb n8.lt)
      clear hal8
      refine hK.out _ _ (⟨HG9.out.gc, n9⟩) (fun hHeld => ?_)
      clear hK K
      try simp only [List.getElem_toArray, List.getElem_cons_zero, List.getElem_cons_succ, Act.put, List.setIfInBounds_toArray, List.set_cons_zero, List.set_cons_succ]
      refine wpAnyL_ready (rs := [5]) (by kernel_rfl) (by simp) ?_
      refine AllReadyL.cons (o := _) rfl (fun K hK => ?_) AllReadyL.nil
      rw [if_pos (by rfl)]
      refine wp_append_at _ _ 26 rfl (nb + 1) 28 i0 (.agg #[.string ⟨#[]⟩, .string ⟨#[]⟩, .int .i64 0, .slice none 0 0]) 4 64 Tryd.underlying26 hi0 hz0 hz1 hz2 rfl (by decide) v nds.length (ndRow nds) rfl HG9.out.own ⟨w8.heap.size, 0, none⟩ 1 1 nd.vals rfl rfl ?c1 ?c2 ?c3 ?c4 ?c5 ?_
      case c1 => exact node_cells_new w8 _ nd
      case c2 => simp [Nd.vals, Value.oneCell']
      case c3 => unfold maxLen; omega
      case c4 => omega
      case c5 => have := HG9.out.lt; omega
      intro v' w9 hown9 hgrow9 hat9
      obtain ⟨g9, c9, rfl⟩ := as_succ hown9
      have HE := Lib.hid (HG4.out.drew.put HB8.out HT8.out hown9 hgrow9 hat9)
      have HC : Hid (GC nb v w9) := Lib.hid (by
        have h2 := (hgrow9.block nb HG9.out.lt (fun e => by have := (HG9.out.own.lt nb e.symm).1; omega)).trans HG9.out.blk
        exact ⟨as_cell h2, as_frozen h2⟩)
      have n10 := n9.kept (hgrow9.block kb n9.lt (fun e => by have h1 := (HG.out.own.lt kb e.symm).2; have h2 := HKB.out; omega))
      clear hown9 hgrow9 hat9
      refine hK.out _ _ (⟨HC.out, n10⟩) (fun hHeld => ?_)
      clear hK K
      try simp only [List.getElem_toArray, List.getElem_cons_zero, List.getElem_cons_succ, Act.put, List.setIfInBounds_toArray, List.set_cons_zero, List.set_cons_succ]
      refine wpAnyL_take (i := 6) (oi := _) (v := ?_) rfl (by kernel_rfl) (by kernel_rfl) (by kernel_rfl) (by decide) (by kernel_rfl) (by kernel_rfl) (by kernel_rfl) (fun _ _ _ h => h) (Or.inl ⟨by rfl, ?_⟩) (by assumption) ?_
      rotate_left
      · (intro w hSw; obtain ⟨⟨q0, q1⟩, q2, q3, q4, q5⟩ := hSw; simp only at q2 q3 q4 q5; go_simp; try with_reducible rfl)
      try simp only [List.getElem_toArray, List.getElem_cons_zero, List.getElem_cons_succ, Act.put, List.setIfInBounds_toArray, List.set_cons_zero, List.set_cons_succ]
      obtain ⟨⟨q0, q1⟩, _⟩ := hHeld
      refine wpAnyL_ready (rs := [7]) (by kernel_rfl) (by simp) ?_
      refine AllReadyL.store (o := _) rfl (by decide) (by decide) (fun K hK => ?_) AllReadyL.nil
      go_simp
      refine hK.out _ _ ?_
      clear hK K
      try simp only [List.getElem_toArray, List.getElem_cons_zero, List.getElem_cons_succ, Act.put, List.setIfInBounds_toArray, List.set_cons_zero, List.set_cons_succ]
      refine wpAnyL_done (by kernel_rfl) ?_ _
      go_wp2_with fail
      go_round
      case measure => simp [intOf]; omega
      case rel =>
        exact ⟨k + 1, nds ++ [nd], .slice (some ⟨g9, 0, none⟩) (nds.length + 1) c9, by omega, by simp, by rw [HET.out]; exact HE⟩
    · obtain rfl : k = ks.length := by omega
      have hnn : (erL (ks.take ks.length)) = erL ks := by rw [List.take_length]
      rw [hnn] at HG
      obtain ⟨vp, vn, vc, rfl⟩ : ∃ p n c, v = .slice p n c := by
        rcases HG.out.own.2 with ⟨rfl, _⟩ | ⟨g, cap', cur, rfl, _⟩
        · exact ⟨_, _, _, rfl⟩
        · exact ⟨_, _, _, rfl⟩
      have hpos := HG.out.pos
      have hz7 : W0.heap.size = w.heap.size + 1 := by omega
      have hres := HG.out.res
      rw [hz7] at hres
      have d0 : wr.cell? ⟨nb, 0, none⟩ = some (.string op) := as_cell HG.out.blk
      have d1 : wr.cell? ⟨nb, 1, none⟩ = some (.string tx) := as_cell HG.out.blk
      have d2 : wr.cell? ⟨nb, 2, none⟩ = some (.int .i64 pl) := as_cell HG.out.blk
      have d3 : wr.cell? ⟨nb, 3, none⟩ = some (.slice vp vn vc) := as_cell HG.out.blk
      have f0 : wr.frozen? ⟨w.heap.size + 1, 0, none⟩ = false := as_frozen hres
      have f1 : wr.frozen? ⟨w.heap.size + 1, 1, none⟩ = false := as_frozen hres
      have f2 : wr.frozen? ⟨w.heap.size + 1, 2, none⟩ = false := as_frozen hres
      have f3 : wr.frozen? ⟨w.heap.size + 1, 3, none⟩ = false := as_frozen hres
      have e0 : wr.cell? ⟨w.heap.size + 1, 0, none⟩ = some (.string ⟨#[]⟩) := as_cell hres
      have e1 : wr.cell? ⟨w.heap.size + 1, 1, none⟩ = some (.string ⟨#[]⟩) := as_cell hres
      have e2 : wr.cell? ⟨w.heap.size + 1, 2, none⟩ = some (.int .i64 0) := as_cell hres
      have e3 : wr.cell? ⟨w.heap.size + 1, 3, none⟩ = some (.slice none 0 0) := as_cell hres
      have hnn2 : vn = nds.length := by
        rcases HG.out.own.2 with ⟨h1, h0⟩ | ⟨g, cap', cur, h1, _⟩
        · injection h1 with _ h2 _; omega
        · injection h1
      subst hnn2
      obtain ⟨ks2, hks2, her⟩ := gather (B' := fun g => w.heap.size + 2 ≤ g) (n := nds.length) rfl HG.out.own rfl HG.out.trs (fun g hg _ => by have := hg.1; omega) (fun g hg => by have := (HG.out.own.lt g hg).1; omega) op tx pl
      have HE : Hid (GrPost (T.mk op tx pl (erL ks)) w (.returned (.agg #[.string op, .string tx, .int .i64 pl, .slice vp nds.length vc])) (put4 wr (w.heap.size + 1) ⟨op, tx, pl, vp, nds.length, vc⟩)) := Lib.hid ⟨⟨op, tx, pl, vp, nds.length, vc⟩, ks2, rfl, hks2.kept (fun g hg _ => put4_block (by show g ≠ w.heap.size + 1; omega) _) (fun g hg _ => by show w.heap.size ≤ g; omega), by rw [Nd.t, her], put4_below HBW.out (by omega) _⟩
      clear hks2 her HG hres hpos hz7 hnn hnb z1
      go_wp2_with fail
      refine bodyPost_ret (v := .agg #[.string op, .string tx, .int .i64 pl, .slice vp nds.length vc]) ?_ rfl HE.out
      simp [results, Tryd.results20, go_sem, e0, e1, e2, e3]
mutual
theorem told_any : ∀ a : AT, ToldOk a
  | .mk op tx pl kp kc g o ks => told_one (.mk op tx pl kp kc g o ks) (toldL ks)
theorem toldL : ∀ (l : List AT), ∀ k ∈ l, ToldOk k
  | [], k, h => by cases h
  | a :: l, k, h => by
    rcases List.mem_cons.1 h with h | h
    · rw [h]; exact told_any a
    · exact toldL l k h
end
end Go.Proofs.YtgahamppfdhnaaaDoor
