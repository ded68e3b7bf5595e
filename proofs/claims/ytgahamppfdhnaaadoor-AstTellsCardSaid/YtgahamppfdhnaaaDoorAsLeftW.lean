/-
  THE WALK of AstLeft.
-/
import Derived.Test.YtgahamppfdhnaaaDoorAsAll
namespace Go.Proofs.YtgahamppfdhnaaaDoor
open Go.RowKit Go.Shelf
attribute [local go_sem] Oper.semAt_some

theorem grow_txok (l : List Pa) : ∀ (n i : Nat), TxOk (growF l n i)
  | 0, i => by rw [growF, TxOk]; exact ⟨by decide, by decide, by rw [TxOkL]; trivial⟩
  | n + 1, i => by
    rw [growF]
    split
    · rw [TxOk]; exact ⟨by decide, by decide, by rw [TxOkL]; trivial⟩
    · rename_i a _
      rw [TxOk]
      refine ⟨Nat.le_trans (cutB_size _ _) (by omega), Nat.le_trans (cutB_size _ _) (by omega), TxOkL.of fun t ht => ?_⟩
      obtain ⟨k, _, rfl⟩ := List.mem_map.1 ht
      exact grow_txok l n k
theorem treeOf_txok (l : List Pa) : TxOk (treeOf l) := by
  unfold treeOf
  split
  · rw [TxOk]; exact ⟨by decide, by decide, by rw [TxOkL]; trivial⟩
  · exact grow_txok _ _ _
theorem size_pos' (t : T) : 1 ≤ t.size := by cases t; rw [T.size]; omega
/-- What AstLeft keeps. -/
structure Lf (w : World) (most : Int) (bn : Nat) (N : Nd) (t : T) (W : World) : Prop where
  bel : Below w.heap.size w W
  m : W.cell? ⟨w.heap.size, 0, none⟩ = some (.int .i64 most)
  n : NodeAt W bn 0 N
  t : VT W 0 N t
theorem Lf.next {w W W' : World} {most : Int} {bn : Nat} {N : Nd} {t : T} (h : Lf w most bn N t W) (hb : Below W.heap.size W W') : Lf w most bn N t W' :=
  ⟨h.bel.trans (hb.mono h.bel.size), (hb.cell (p := ⟨w.heap.size, 0, none⟩) (World.block_lt_of_cell? _ _ h.m)).trans h.m, h.n.kept (hb.block _ h.n.lt), h.t.next hb⟩
theorem Lf.cells {w W : World} {most : Int} {bn : Nat} {a b : ByteArray} {c : Int} {d : Option Addr} {e f : Nat} {t : T} (h : Lf w most bn ⟨a, b, c, d, e, f⟩ t W) : W.cell? ⟨w.heap.size, 0, none⟩ = some (.int .i64 most) ∧ W.cell? ⟨bn, 0, none⟩ = some (.string a) ∧ W.cell? ⟨bn, 1, none⟩ = some (.string b) ∧ W.cell? ⟨bn, 2, none⟩ = some (.int .i64 c) ∧ W.cell? ⟨bn, 3, none⟩ = some (.slice d e f) := ⟨h.m, h.n.c0, h.n.c1, h.n.c2, h.n.c3⟩
/-- No panic. -/
def NoP (Q : Exit → Act → World → Prop) (e : Exit) (a : Act) (w : World) : Prop := (∀ c, e ≠ .panic c) ∧ Q e a w
theorem mark_kept {W W' : World} {D : Nat} (h : W.heap[D]? = some (.deferred (some []))) (hb : Below W.heap.size W W') : W'.heap[D]? = some (.deferred (some [])) := (hb.block D (as_lt h)).trans h
set_option maxHeartbeats 16000000 in
set_option maxRecDepth 100000 in
theorem left_walk (q : Option Addr) (cap : Nat) (l : List Pa) (most : Int) (w : World) (hA : PaAt w q l) (hl : l.length ≤ maxLen) (hcap : l.length ≤ cap) (hok : ∀ a ∈ l, a.ok) (hmost : -9223372036854775808 ≤ most ∧ most ≤ 9223372036854775807) (htab : Lib.TabBelow Tryd.prog w.heap.size w "internal/strconv.uint64pow10" .u64 Lib.pow10Tab) :
    Calls Tryd.prog 5 #[.slice q l.length cap, .int .i64 most] w fun e w' => e = .returned (.bool true) ∧ Below w.heap.size w w' := by
  have hba : Below w.heap.size w (w.alloc (.cells #[.int .i64 most] 3)) := (Below.refl _ _).alloc (Nat.le_refl _) _
  have CG := Lib.hid (fun W (h : Below w.heap.size w W) => gw_any q cap l W (hA.next h) hok hl hcap)
  have htz := treeOf_size l
  have HTX := Lib.hid (treeOf_txok l)
  generalize treeOf l = t at *
  have htp := size_pos' t
  have HT := Lib.hid htab
  have HMO := Lib.hid hmost
  have HBA := Lib.hid hba
  clear hA hok htab hcap hl hba hmost
  refine (callsIn_wide (n := 6)).1 ?_
  refine callsIn_of_wp_marks Tryd.func5 rfl trivial ?_ rfl
  simp only [Tryd.ntmps5, List.size_toArray, List.length_cons, List.length_nil, Nat.reduceAdd, Nat.reduceSub, Array.replicate_succ, Array.replicate_zero, List.push_toArray, List.append_toArray, List.nil_append, List.cons_append]
  refine wpIn_wide.2 ?_
  go_wp2_with fail
  refine (awake_any _ (as_tab HT.out HBA.out HBA.out.size)).mono ?_
  rintro e w1 ⟨rfl, hb1⟩
  have hm1 : w1.cell? ⟨w.heap.size, 0, none⟩ = some (.int .i64 most) := (hb1.cell (p := ⟨w.heap.size, 0, none⟩) (by simp)).trans (by simp [go_sem])
  have HM1 := Lib.hid hm1
  have HB1 := Lib.hid (HBA.out.trans (hb1.mono HBA.out.size))
  clear hb1 HBA hm1
  go_wp2_with fail
  refine (CG.out _ HB1.out).mono ?_
  rintro e w2 ⟨⟨n1, n2, n3, n4, n5, n6⟩, ⟨m1, m2, m3, m4, m5, m6⟩, rfl, hv2, _, hb2⟩
  have hm2 := (hb2.cell (p := ⟨w.heap.size, 0, none⟩) (World.block_lt_of_cell? _ _ HM1.out)).trans HM1.out
  have hb3 : Below w2.heap.size w2 ((w2.alloc (.cells #[.string n1, .string n2, .int .i64 n3, .slice n4 n5 n6] 25)).alloc (.cells #[.string m1, .string m2, .int .i64 m3, .slice m4 m5 m6] 28)) := ((Below.refl _ _).alloc (Nat.le_refl _) _).alloc (by simp) _
  have hn3 : NodeAt ((w2.alloc (.cells #[.string n1, .string n2, .int .i64 n3, .slice n4 n5 n6] 25)).alloc (.cells #[.string m1, .string m2, .int .i64 m3, .slice m4 m5 m6] 28)) w2.heap.size 0 ⟨n1, n2, n3, n4, n5, n6⟩ := (node_new w2 ⟨n1, n2, n3, n4, n5, n6⟩).kept (Below.heap_alloc _ _ _ (by simp))
  have HL0 : Hid (Lf w most w2.heap.size ⟨n1, n2, n3, n4, n5, n6⟩ t ((w2.alloc (.cells #[.string n1, .string n2, .int .i64 n3, .slice n4 n5 n6] 25)).alloc (.cells #[.string m1, .string m2, .int .i64 m3, .slice m4 m5 m6] 28))) := Lib.hid
    ⟨HB1.out.trans ((hb2.trans (hb3.mono hb2.size)).mono HB1.out.size), (hb3.cell (p := ⟨w.heap.size, 0, none⟩) (World.block_lt_of_cell? _ _ hm2)).trans hm2, hn3, (hv2.less (Nat.zero_le _)).next hb3⟩
  clear hv2 hb2 hm2 hb3 hn3 CG HB1 HM1
  simp only [Nd.val]
  go_wp2_with fail
  generalize ((w2.alloc (.cells #[.string n1, .string n2, .int .i64 n3, .slice n4 n5 n6] 25)).alloc (.cells #[.string m1, .string m2, .int .i64 m3, .slice m4 m5 m6] 28)) = W0 at *
  generalize w2.heap.size = bn at *
  refine (wpIn_wide (n := 6)).1 (wpIn_loop_rounds 3 ?_)
  by_cases hcase : most < (t.size : Int)
  · rw [roundsIn_succ]
    refine wpIn_wide.2 ?_
    have hb4 : Below W0.heap.size W0 (W0.alloc (.cells #[.int .i64 0] 3)) := (Below.refl _ _).alloc (Nat.le_refl _) _
    have hz4 : (W0.alloc (.cells #[.int .i64 0] 3)).heap.size = W0.heap.size + 1 := by simp
    have CA0 := Lib.hid (all_call ⟨n1, n2, n3, n4, n5, n6⟩ t 0 _ (HL0.out.next hb4).t (by omega) HTX.out)
    have HI0 : Hid (IC (W0.alloc (.cells #[.int .i64 0] 3)) W0.heap.size 0) := Lib.hid (IC.new W0 0)
    have HLa0 := Lib.hid (HL0.out.next hb4)
    have HZ0 := Lib.hid hz4
    have HB40 := Lib.hid hb4
    obtain ⟨_, y0, y1, y2, y3⟩ := HLa0.out.cells
    have hbl : bn < W0.heap.size := HL0.out.n.lt
    have hbn : bn ≠ W0.heap.size := Nat.ne_of_lt HL0.out.n.lt
    have hbn2 := Ne.symm hbn
    simp only [Nd.val] at CA0
    clear hb4 hz4
    go_wp2_with fail
    refine CA0.out.mono ?_
    rintro e X0 ⟨bh, m2, rfl, hbh, hnh, hvh, hb5⟩
    clear y0 y1 y2 y3 hbn hbn2 hbl CA0
    have HL5 := Lib.hid (HLa0.out.next hb5)
    have HI5 := Lib.hid (HI0.out.next hb5)
    have hz5 := hb5.size
    have hz4 := HZ0.out
    rw [hz4] at hz5 hbh hvh
    have HBX0 : Hid (Below W0.heap.size W0 X0) := Lib.hid (HB40.out.trans (hb5.mono HB40.out.size))
    have hbh5 := hnh.lt
    clear hb5 HI0 HLa0 hz4 HB40
    dsimp only
    go_wp2_with fail
    refine (wpIn_wide (n := 6)).1 ?_
    refine wpIn_rangeC (F := Fence.wide) rfl (by omega) (gf := 27) (lb := #[.pointer (some ⟨bh, 0, none⟩)]) rfl trivial (enters_of Tryd.func27 (by kernel_rfl) rfl)
      (all_seq hnh hvh (by omega) HTX.out _ (by omega)) (Below.refl _ _) (fun _ => rfl) (fun k => k = W0.heap.size) (fun k hk hc => by rcases hk with h | h <;> omega) (fun k hk => by rcases hk with h | h <;> omega) (fun k hc => by omega)
      (fun (pre : List (Nat × Nd)) C W => (C = fun k => k = W0.heap.size) ∧ IC W W0.heap.size (pre.length : Int) ∧ ((pre.length : Int) ≤ most ∨ pre.length = 0))
      (fun cd pre C W => cd = .exit 2 ∧ (C = fun k => k = W0.heap.size) ∧ ∃ n : Nat, pre.length = n + 1 ∧ IC W W0.heap.size (n : Int) ∧ most ≤ (n : Int) ∧ ((n : Int) ≤ most ∨ n = 0)) ?hI_0_stop ?hIx_0_stop ⟨rfl, HI5.out, .inr rfl⟩ ?aa_0_stop ?assign_0_stop ?body_0_stop ?done_0_stop ?stop_0_stop
    case hI_0_stop =>
      rintro pre C A B ⟨rfl, h1, h3⟩ hs
      exact ⟨rfl, h1.kept (hs.block _ rfl), h3⟩
    case hIx_0_stop =>
      rintro cd pre C A B ⟨hcd, rfl, n, h0, h1, h2⟩ hs
      exact ⟨hcd, rfl, n, h0, h1.kept (hs.block _ rfl), h2⟩
    case assign_0_stop =>
      intro l' x W K hK
      simp only [encY]
      gi_wp2
      exact hK
    case body_0_stop =>
      rintro l' pre x C W ⟨rfl, hic, hle⟩ hcm hf hlen hsp
      have m0 : W.cell? ⟨w.heap.size, 0, none⟩ = some (.int .i64 most) := (hcm.cell (a := ⟨w.heap.size, 0, none⟩) (World.block_lt_of_cell? _ _ HL5.out.m) (by have := World.block_lt_of_cell? _ _ HL0.out.m; show w.heap.size ≠ _; exact Nat.ne_of_lt this)).trans HL5.out.m
      have hc0 := hic.c
      have hf0 := hic.f
      have HIC := Lib.hid hic
      have hmo := HMO.out
      have hlt := hic.lt
      have hpl : pre.length ≤ 1000 := by omega
      clear hcm hf hlen hsp hic
      by_cases hb : most ≤ (pre.length : Int)
      · have HLE := Lib.hid hle
        gi_wp2_with fail
        exact ⟨_, fun k hk => Or.inl hk, fun k hk => by subst hk; exact hlt, Came.refl _ _, rfl, rfl, pre.length, by simp, HIC.out, hb, HLE.out⟩
      · gi_wp2_with fail
        refine ⟨fun k => k = W0.heap.size, fun k hk => Or.inl hk, fun k hk => by subst hk; rw [World.size_setCell]; exact hlt, ⟨rfl, rfl, rfl, by rw [World.size_setCell]; exact Nat.le_refl _, fun k _ hn => Below.heap_setCell W ⟨W0.heap.size, 0, none⟩ _ k hn⟩, rfl, ?_, .inl ?_⟩
        · rw [List.length_append, List.length_singleton]
          exact HIC.out.set _
        · rw [List.length_append, List.length_singleton]; omega
    case done_0_stop =>
      rintro D ys C W hys ⟨rfl, hic, hle⟩ hcm hf rfl hD hsz
      exfalso
      have h1 : ys.length = t.size := by rw [← flatT_len 0 t, ← hys, List.length_map]
      omega
    case stop_0_stop =>
      rintro D cd pre C W hpre ⟨rfl, rfl, n, hn, hic, hm1, hm2⟩ hcm hf rfl hD hsz
      have hk : (n : Int) = (min (max most 0) (t.size : Int)) := by
        have h1 := hpre.length_le
        rw [flatT_len, List.length_map] at h1
        omega
      rw [hk] at hic
      have HDW0 := Lib.hid (show w.heap.size ≤ X0.heap.size from by have := HL0.out.bel.size; omega)
      have hb6 : Below W0.heap.size W0 W := HBX0.out.trans (hcm.below (by omega) (fun k hk => by omega))
      have HL6 := Lib.hid (HL0.out.next hb6)
      have HIC := Lib.hid hic
      have HD0 := Lib.hid hD
      have HIL : Hid (∀ W', Below W.heap.size W W' → W'.cell? ⟨W0.heap.size, 0, none⟩ = some (.int .i64 (min (max most 0) (t.size : Int)))) := Lib.hid (fun W' h => (HIC.out.next h).c)
      clear hb6 hcm hf hD hsz hic hk hpre hn hm1 hm2 HL5 HI5 hnh hvh hbh hbh5 hz5
      generalize X0.heap.size = D0 at *
      clear HBX0
      have hk0 := HIC.out.c
      have HLd := Lib.hid (HL6.out.next (⟨rfl, rfl, rfl, Nat.le_refl _, fun _ _ => rfl⟩ : Below W.heap.size W W.drew))
      refine wpIn_wide.2 ?_
      dsimp only
      go_wp2_with fail
      refine wp_mono (Q := NoP _) ?_ (fun e a w h => h.2)
      refine wp_region_held_drew (S := fun w' => Lf w most bn ⟨n1, n2, n3, n4, n5, n6⟩ t w' ∧ w'.cell? ⟨W0.heap.size, 0, none⟩ = some (.int .i64 (min (max most 0) (t.size : Int)))) (by kernel_rfl) (⟨HLd.out, hk0⟩) (fun hHeld => ?_)
      refine wpAnyH_take (i := 0) (oi := _) (v := ?_) rfl (by kernel_rfl) (by kernel_rfl) (by kernel_rfl) (fun c _ _ h => absurd rfl (h.1 c)) (Or.inl ⟨by rfl, ?_⟩) (by assumption) ?_
      rotate_left
      · (intro w hSw; obtain ⟨q0, qk⟩ := hSw; obtain ⟨qm, qa, qb, qc, qd⟩ := q0.cells; go_simp; try with_reducible rfl)
      try simp only [List.getElem_toArray, List.getElem_cons_zero, Act.put, List.setIfInBounds_toArray, List.set_cons_zero, List.set_cons_succ]
      refine wpAnyH_take (i := 1) (oi := _) (v := ?_) rfl (by kernel_rfl) (by kernel_rfl) (by kernel_rfl) (fun c _ _ h => absurd rfl (h.1 c)) (Or.inl ⟨by rfl, ?_⟩) (by assumption) ?_
      rotate_left
      · (intro w hSw; obtain ⟨q0, qk⟩ := hSw; obtain ⟨qm, qa, qb, qc, qd⟩ := q0.cells; go_simp; try with_reducible rfl)
      try simp only [List.getElem_toArray, List.getElem_cons_zero, List.getElem_cons_succ, Act.put, List.setIfInBounds_toArray, List.set_cons_zero, List.set_cons_succ]
      refine wpAnyH_take (i := 3) (oi := _) (v := ?_) rfl (by kernel_rfl) (by kernel_rfl) (by kernel_rfl) (fun c _ _ h => absurd rfl (h.1 c)) (Or.inl ⟨by rfl, ?_⟩) (by assumption) ?_
      rotate_left
      · (intro w hSw; obtain ⟨q0, qk⟩ := hSw; obtain ⟨qm, qa, qb, qc, qd⟩ := q0.cells; go_simp; try with_reducible rfl)
      try simp only [List.getElem_toArray, List.getElem_cons_zero, List.getElem_cons_succ, Act.put, List.setIfInBounds_toArray, List.set_cons_zero, List.set_cons_succ]
      refine wpAnyH_take (i := 2) (oi := _) (v := ?_) rfl (by kernel_rfl) (by kernel_rfl) (by kernel_rfl) (fun c _ _ h => absurd rfl (h.1 c)) (Or.inl ⟨by rfl, ?_⟩) (by assumption) ?_
      rotate_left
      · (intro w hSw; obtain ⟨q0, qk⟩ := hSw; obtain ⟨qm, qa, qb, qc, qd⟩ := q0.cells; go_simp; try with_reducible rfl)
      try simp only [List.getElem_toArray, List.getElem_cons_zero, List.getElem_cons_succ, Act.put, List.setIfInBounds_toArray, List.set_cons_zero, List.set_cons_succ]
      refine wpAnyH_ready (rs := [4]) (by kernel_rfl) (by simp) ?_
      refine AllReadyH.cons (o := _) rfl (fun K hK => ?_) AllReadyH.nil
      go_simp
      refine (size_of _ t 0 _ HLd.out.t (by omega)).mono ?_
      rintro e w8 ⟨rfl, hb8⟩
      have hbW : Below W.heap.size W w8 := (⟨rfl, rfl, rfl, Nat.le_refl _, fun _ _ => rfl⟩ : Below W.heap.size W W.drew).trans (hb8.mono (Nat.le_refl _))
      have HL8 := Lib.hid (HL6.out.next hbW)
      have HD0 := Lib.hid (mark_kept HD0.out hbW)
      have hk8 := HIL.out w8 hbW
      clear hb8 hbW
      refine hK.out _ _ (⟨HL8.out, hk8⟩) (fun hHeld => ?_)
      clear hK K
      try simp only [List.getElem_toArray, List.getElem_cons_zero, List.getElem_cons_succ, Act.put, List.setIfInBounds_toArray, List.set_cons_zero, List.set_cons_succ]
      refine wpAnyH_take (i := 5) (oi := _) (v := ?_) rfl (by kernel_rfl) (by kernel_rfl) (by kernel_rfl) (fun c _ _ h => absurd rfl (h.1 c)) (Or.inl ⟨by rfl, ?_⟩) (by assumption) ?_
      rotate_left
      · (intro w hSw; obtain ⟨q0, qk⟩ := hSw; obtain ⟨qm, qa, qb, qc, qd⟩ := q0.cells; go_simp; try with_reducible rfl)
      try simp only [List.getElem_toArray, List.getElem_cons_zero, List.getElem_cons_succ, Act.put, List.setIfInBounds_toArray, List.set_cons_zero, List.set_cons_succ]
      refine wpAnyH_take (i := 6) (oi := _) (v := ?_) rfl (by kernel_rfl) (by kernel_rfl) (by kernel_rfl) (fun c _ _ h => absurd rfl (h.1 c)) (Or.inl ⟨by rfl, ?_⟩) (by assumption) ?_
      rotate_left
      · (intro w hSw; obtain ⟨q0, qk⟩ := hSw; obtain ⟨qm, qa, qb, qc, qd⟩ := q0.cells; go_simp; try with_reducible rfl)
      try simp only [List.getElem_toArray, List.getElem_cons_zero, List.getElem_cons_succ, Act.put, List.setIfInBounds_toArray, List.set_cons_zero, List.set_cons_succ]
      refine wpAnyH_done (by kernel_rfl) ?_ _
      refine ⟨by simp, ?_⟩
      clear hHeld hk0 hk8 HLd HL6 HIC HIL HZ0
      clear HL0
      generalize W0.heap.size = B0 at *
      go_wp2_with fail
      have HL1 := HL8
      clear HL8
      generalize w8 = W1 at *
      rw [roundsIn_succ]
      refine wpIn_wide.2 ?_
      have hb4 : Below W1.heap.size W1 (W1.alloc (.cells #[.int .i64 0] 3)) := (Below.refl _ _).alloc (Nat.le_refl _) _
      have hz4 : (W1.alloc (.cells #[.int .i64 0] 3)).heap.size = W1.heap.size + 1 := by simp
      have CA1 := Lib.hid (all_call ⟨n1, n2, n3, n4, n5, n6⟩ t 0 _ (HL1.out.next hb4).t (by omega) HTX.out)
      have HI1 : Hid (IC (W1.alloc (.cells #[.int .i64 0] 3)) W1.heap.size 0) := Lib.hid (IC.new W1 0)
      have HLa1 := Lib.hid (HL1.out.next hb4)
      have HZ1 := Lib.hid hz4
      have HB41 := Lib.hid hb4
      obtain ⟨_, y0, y1, y2, y3⟩ := HLa1.out.cells
      have hbl : bn < W1.heap.size := HL1.out.n.lt
      have hbn : bn ≠ W1.heap.size := Nat.ne_of_lt HL1.out.n.lt
      have hbn2 := Ne.symm hbn
      simp only [Nd.val] at CA1
      clear hb4 hz4
      go_wp2_with fail
      refine CA1.out.mono ?_
      rintro e X1 ⟨bh, m2, rfl, hbh, hnh, hvh, hb5⟩
      clear y0 y1 y2 y3 hbn hbn2 hbl CA1
      have HL5 := Lib.hid (HLa1.out.next hb5)
      have HI5 := Lib.hid (HI1.out.next hb5)
      have hz5 := hb5.size
      have hz4 := HZ1.out
      rw [hz4] at hz5 hbh hvh
      have HBX1 : Hid (Below W1.heap.size W1 X1) := Lib.hid (HB41.out.trans (hb5.mono HB41.out.size))
      have hbh5 := hnh.lt
      clear hb5 HI1 HLa1 hz4 HB41
      dsimp only
      go_wp2_with fail
      refine (wpIn_wide (n := 6)).1 ?_
      refine wpIn_rangeC (F := Fence.wide) rfl (by omega) (gf := 27) (lb := #[.pointer (some ⟨bh, 0, none⟩)]) rfl trivial (enters_of Tryd.func27 (by kernel_rfl) rfl)
        (all_seq hnh hvh (by omega) HTX.out _ (by omega)) (Below.refl _ _) (fun _ => rfl) (fun k => k = W1.heap.size) (fun k hk hc => by rcases hk with h | h <;> omega) (fun k hk => by rcases hk with h | h <;> omega) (fun k hc => by omega)
        (fun (pre : List (Nat × Nd)) C W => (C = fun k => k = W1.heap.size) ∧ IC W W1.heap.size (pre.length : Int) ∧ ((pre.length : Int) ≤ most ∨ pre.length = 0))
        (fun cd pre C W => cd = .exit 2 ∧ (C = fun k => k = W1.heap.size) ∧ ∃ n : Nat, pre.length = n + 1 ∧ IC W W1.heap.size (n : Int) ∧ most ≤ (n : Int) ∧ ((n : Int) ≤ most ∨ n = 0)) ?hI_1_stop ?hIx_1_stop ⟨rfl, HI5.out, .inr rfl⟩ ?aa_1_stop ?assign_1_stop ?body_1_stop ?done_1_stop ?stop_1_stop
      case hI_1_stop =>
        rintro pre C A B ⟨rfl, h1, h3⟩ hs
        exact ⟨rfl, h1.kept (hs.block _ rfl), h3⟩
      case hIx_1_stop =>
        rintro cd pre C A B ⟨hcd, rfl, n, h0, h1, h2⟩ hs
        exact ⟨hcd, rfl, n, h0, h1.kept (hs.block _ rfl), h2⟩
      case assign_1_stop =>
        intro l' x W K hK
        simp only [encY]
        gi_wp2
        exact hK
      case body_1_stop =>
        rintro l' pre x C W ⟨rfl, hic, hle⟩ hcm hf hlen hsp
        have m0 : W.cell? ⟨w.heap.size, 0, none⟩ = some (.int .i64 most) := (hcm.cell (a := ⟨w.heap.size, 0, none⟩) (World.block_lt_of_cell? _ _ HL5.out.m) (by have := World.block_lt_of_cell? _ _ HL1.out.m; show w.heap.size ≠ _; exact Nat.ne_of_lt this)).trans HL5.out.m
        have hc0 := hic.c
        have hf0 := hic.f
        have HIC := Lib.hid hic
        have hmo := HMO.out
        have hlt := hic.lt
        have hpl : pre.length ≤ 1000 := by omega
        clear hcm hf hlen hsp hic
        by_cases hb : most ≤ (pre.length : Int)
        · have HLE := Lib.hid hle
          gi_wp2_with fail
          exact ⟨_, fun k hk => Or.inl hk, fun k hk => by subst hk; exact hlt, Came.refl _ _, rfl, rfl, pre.length, by simp, HIC.out, hb, HLE.out⟩
        · gi_wp2_with fail
          refine ⟨fun k => k = W1.heap.size, fun k hk => Or.inl hk, fun k hk => by subst hk; rw [World.size_setCell]; exact hlt, ⟨rfl, rfl, rfl, by rw [World.size_setCell]; exact Nat.le_refl _, fun k _ hn => Below.heap_setCell W ⟨W1.heap.size, 0, none⟩ _ k hn⟩, rfl, ?_, .inl ?_⟩
          · rw [List.length_append, List.length_singleton]
            exact HIC.out.set _
          · rw [List.length_append, List.length_singleton]; omega
      case done_1_stop =>
        rintro D ys C W hys ⟨rfl, hic, hle⟩ hcm hf rfl hD hsz
        exfalso
        have h1 : ys.length = t.size := by rw [← flatT_len 0 t, ← hys, List.length_map]
        omega
      case stop_1_stop =>
        rintro D cd pre C W hpre ⟨rfl, rfl, n, hn, hic, hm1, hm2⟩ hcm hf rfl hD hsz
        have hk : (n : Int) = (min (max most 0) (t.size : Int)) := by
          have h1 := hpre.length_le
          rw [flatT_len, List.length_map] at h1
          omega
        rw [hk] at hic
        have HDW1 := Lib.hid (show w.heap.size ≤ X1.heap.size from by have := HL1.out.bel.size; omega)
        have HDN := Lib.hid (show D0 ≠ X1.heap.size from by have := as_lt HD0.out; omega)
        have hb6 : Below W1.heap.size W1 W := HBX1.out.trans (hcm.below (by omega) (fun k hk => by omega))
        have HL6 := Lib.hid (HL1.out.next hb6)
        have HIC := Lib.hid hic
        have HD1 := Lib.hid hD
        have HD0 := Lib.hid (mark_kept HD0.out hb6)
        have HIL : Hid (∀ W', Below W.heap.size W W' → W'.cell? ⟨W1.heap.size, 0, none⟩ = some (.int .i64 (min (max most 0) (t.size : Int)))) := Lib.hid (fun W' h => (HIC.out.next h).c)
        clear hb6 hcm hf hD hsz hic hk hpre hn hm1 hm2 HL5 HI5 hnh hvh hbh hbh5 hz5
        generalize X1.heap.size = D1 at *
        clear HBX1
        have hk0 := HIC.out.c
        have HLd := Lib.hid (HL6.out.next (⟨rfl, rfl, rfl, Nat.le_refl _, fun _ _ => rfl⟩ : Below W.heap.size W W.drew))
        refine wpIn_wide.2 ?_
        dsimp only
        go_wp2_with fail
        refine wp_mono (Q := NoP _) ?_ (fun e a w h => h.2)
        refine wp_region_held_drew (S := fun w' => Lf w most bn ⟨n1, n2, n3, n4, n5, n6⟩ t w' ∧ w'.cell? ⟨W1.heap.size, 0, none⟩ = some (.int .i64 (min (max most 0) (t.size : Int)))) (by kernel_rfl) (⟨HLd.out, hk0⟩) (fun hHeld => ?_)
        refine wpAnyH_take (i := 0) (oi := _) (v := ?_) rfl (by kernel_rfl) (by kernel_rfl) (by kernel_rfl) (fun c _ _ h => absurd rfl (h.1 c)) (Or.inl ⟨by rfl, ?_⟩) (by assumption) ?_
        rotate_left
        · (intro w hSw; obtain ⟨q0, qk⟩ := hSw; obtain ⟨qm, qa, qb, qc, qd⟩ := q0.cells; go_simp; try with_reducible rfl)
        try simp only [List.getElem_toArray, List.getElem_cons_zero, Act.put, List.setIfInBounds_toArray, List.set_cons_zero, List.set_cons_succ]
        refine wpAnyH_take (i := 1) (oi := _) (v := ?_) rfl (by kernel_rfl) (by kernel_rfl) (by kernel_rfl) (fun c _ _ h => absurd rfl (h.1 c)) (Or.inl ⟨by rfl, ?_⟩) (by assumption) ?_
        rotate_left
        · (intro w hSw; obtain ⟨q0, qk⟩ := hSw; obtain ⟨qm, qa, qb, qc, qd⟩ := q0.cells; go_simp; try with_reducible rfl)
        try simp only [List.getElem_toArray, List.getElem_cons_zero, List.getElem_cons_succ, Act.put, List.setIfInBounds_toArray, List.set_cons_zero, List.set_cons_succ]
        refine wpAnyH_take (i := 3) (oi := _) (v := ?_) rfl (by kernel_rfl) (by kernel_rfl) (by kernel_rfl) (fun c _ _ h => absurd rfl (h.1 c)) (Or.inl ⟨by rfl, ?_⟩) (by assumption) ?_
        rotate_left
        · (intro w hSw; obtain ⟨q0, qk⟩ := hSw; obtain ⟨qm, qa, qb, qc, qd⟩ := q0.cells; go_simp; try with_reducible rfl)
        try simp only [List.getElem_toArray, List.getElem_cons_zero, List.getElem_cons_succ, Act.put, List.setIfInBounds_toArray, List.set_cons_zero, List.set_cons_succ]
        refine wpAnyH_take (i := 2) (oi := _) (v := ?_) rfl (by kernel_rfl) (by kernel_rfl) (by kernel_rfl) (fun c _ _ h => absurd rfl (h.1 c)) (Or.inl ⟨by rfl, ?_⟩) (by assumption) ?_
        rotate_left
        · (intro w hSw; obtain ⟨q0, qk⟩ := hSw; obtain ⟨qm, qa, qb, qc, qd⟩ := q0.cells; go_simp; try with_reducible rfl)
        try simp only [List.getElem_toArray, List.getElem_cons_zero, List.getElem_cons_succ, Act.put, List.setIfInBounds_toArray, List.set_cons_zero, List.set_cons_succ]
        refine wpAnyH_ready (rs := [4]) (by kernel_rfl) (by simp) ?_
        refine AllReadyH.cons (o := _) rfl (fun K hK => ?_) AllReadyH.nil
        go_simp
        refine (size_of _ t 0 _ HLd.out.t (by omega)).mono ?_
        rintro e w8 ⟨rfl, hb8⟩
        have hbW : Below W.heap.size W w8 := (⟨rfl, rfl, rfl, Nat.le_refl _, fun _ _ => rfl⟩ : Below W.heap.size W W.drew).trans (hb8.mono (Nat.le_refl _))
        have HL8 := Lib.hid (HL6.out.next hbW)
        have HD0 := Lib.hid (mark_kept HD0.out hbW)
        have HD1 := Lib.hid (mark_kept HD1.out hbW)
        have hk8 := HIL.out w8 hbW
        clear hb8 hbW
        refine hK.out _ _ (⟨HL8.out, hk8⟩) (fun hHeld => ?_)
        clear hK K
        try simp only [List.getElem_toArray, List.getElem_cons_zero, List.getElem_cons_succ, Act.put, List.setIfInBounds_toArray, List.set_cons_zero, List.set_cons_succ]
        refine wpAnyH_take (i := 5) (oi := _) (v := ?_) rfl (by kernel_rfl) (by kernel_rfl) (by kernel_rfl) (fun c _ _ h => absurd rfl (h.1 c)) (Or.inl ⟨by rfl, ?_⟩) (by assumption) ?_
        rotate_left
        · (intro w hSw; obtain ⟨q0, qk⟩ := hSw; obtain ⟨qm, qa, qb, qc, qd⟩ := q0.cells; go_simp; try with_reducible rfl)
        try simp only [List.getElem_toArray, List.getElem_cons_zero, List.getElem_cons_succ, Act.put, List.setIfInBounds_toArray, List.set_cons_zero, List.set_cons_succ]
        refine wpAnyH_take (i := 6) (oi := _) (v := ?_) rfl (by kernel_rfl) (by kernel_rfl) (by kernel_rfl) (fun c _ _ h => absurd rfl (h.1 c)) (Or.inl ⟨by rfl, ?_⟩) (by assumption) ?_
        rotate_left
        · (intro w hSw; obtain ⟨q0, qk⟩ := hSw; obtain ⟨qm, qa, qb, qc, qd⟩ := q0.cells; go_simp; try with_reducible rfl)
        try simp only [List.getElem_toArray, List.getElem_cons_zero, List.getElem_cons_succ, Act.put, List.setIfInBounds_toArray, List.set_cons_zero, List.set_cons_succ]
        refine wpAnyH_done (by kernel_rfl) ?_ _
        refine ⟨by simp, ?_⟩
        clear hHeld hk0 hk8 HLd HL6 HIC HIL HZ1
        clear HL1
        generalize W1.heap.size = B1 at *
        go_wp2_with fail
        have HL2 := HL8
        clear HL8
        generalize w8 = W2 at *
        rw [roundsIn_succ]
        refine wpIn_wide.2 ?_
        go_wp2_with fail
        refine (awake_any _ (as_tab HT.out HL2.out.bel HL2.out.bel.size)).mono ?_
        rintro e w9 ⟨rfl, hb9⟩
        have HD0 := Lib.hid (mark_kept HD0.out hb9)
        have HD1 := Lib.hid (mark_kept HD1.out hb9)
        have HBZ := Lib.hid (HL2.out.next hb9).bel
        clear hb9
        go_wp2_with fail
        have hne : D0 ≠ D1 := HDN.out
        refine ⟨by simp, .inl ⟨_, _, rfl, run_takeDeferred HD1.out, ⟨by simp, .inl ⟨_, _, rfl, run_takeDeferred ((World.putObj_heap_other hne).trans HD0.out), ?_⟩⟩⟩⟩
        refine ⟨.bool true, ?_, rfl, below_put (below_put HBZ.out HDW1.out _) HDW0.out _⟩
        simp [results, Tryd.results5, go_sem]
  · rw [roundsIn_succ]
    refine wpIn_wide.2 ?_
    have hb4 : Below W0.heap.size W0 (W0.alloc (.cells #[.int .i64 0] 3)) := (Below.refl _ _).alloc (Nat.le_refl _) _
    have hz4 : (W0.alloc (.cells #[.int .i64 0] 3)).heap.size = W0.heap.size + 1 := by simp
    have CA0 := Lib.hid (all_call ⟨n1, n2, n3, n4, n5, n6⟩ t 0 _ (HL0.out.next hb4).t (by omega) HTX.out)
    have HI0 : Hid (IC (W0.alloc (.cells #[.int .i64 0] 3)) W0.heap.size 0) := Lib.hid (IC.new W0 0)
    have HLa0 := Lib.hid (HL0.out.next hb4)
    have HZ0 := Lib.hid hz4
    have HB40 := Lib.hid hb4
    obtain ⟨_, y0, y1, y2, y3⟩ := HLa0.out.cells
    have hbl : bn < W0.heap.size := HL0.out.n.lt
    have hbn : bn ≠ W0.heap.size := Nat.ne_of_lt HL0.out.n.lt
    have hbn2 := Ne.symm hbn
    simp only [Nd.val] at CA0
    clear hb4 hz4
    go_wp2_with fail
    refine CA0.out.mono ?_
    rintro e X0 ⟨bh, m2, rfl, hbh, hnh, hvh, hb5⟩
    clear y0 y1 y2 y3 hbn hbn2 hbl CA0
    have HL5 := Lib.hid (HLa0.out.next hb5)
    have HI5 := Lib.hid (HI0.out.next hb5)
    have hz5 := hb5.size
    have hz4 := HZ0.out
    rw [hz4] at hz5 hbh hvh
    have HBX0 : Hid (Below W0.heap.size W0 X0) := Lib.hid (HB40.out.trans (hb5.mono HB40.out.size))
    have hbh5 := hnh.lt
    clear hb5 HI0 HLa0 hz4 HB40
    dsimp only
    go_wp2_with fail
    refine (wpIn_wide (n := 6)).1 ?_
    refine wpIn_rangeC (F := Fence.wide) rfl (by omega) (gf := 27) (lb := #[.pointer (some ⟨bh, 0, none⟩)]) rfl trivial (enters_of Tryd.func27 (by kernel_rfl) rfl)
      (all_seq hnh hvh (by omega) HTX.out _ (by omega)) (Below.refl _ _) (fun _ => rfl) (fun k => k = W0.heap.size) (fun k hk hc => by rcases hk with h | h <;> omega) (fun k hk => by rcases hk with h | h <;> omega) (fun k hc => by omega)
      (fun (pre : List (Nat × Nd)) C W => (C = fun k => k = W0.heap.size) ∧ IC W W0.heap.size (pre.length : Int) ∧ ((pre.length : Int) ≤ most ∨ pre.length = 0))
      (fun cd pre C W => cd = .exit 2 ∧ (C = fun k => k = W0.heap.size) ∧ ∃ n : Nat, pre.length = n + 1 ∧ IC W W0.heap.size (n : Int) ∧ most ≤ (n : Int) ∧ ((n : Int) ≤ most ∨ n = 0)) ?hI_0_done ?hIx_0_done ⟨rfl, HI5.out, .inr rfl⟩ ?aa_0_done ?assign_0_done ?body_0_done ?done_0_done ?stop_0_done
    case hI_0_done =>
      rintro pre C A B ⟨rfl, h1, h3⟩ hs
      exact ⟨rfl, h1.kept (hs.block _ rfl), h3⟩
    case hIx_0_done =>
      rintro cd pre C A B ⟨hcd, rfl, n, h0, h1, h2⟩ hs
      exact ⟨hcd, rfl, n, h0, h1.kept (hs.block _ rfl), h2⟩
    case assign_0_done =>
      intro l' x W K hK
      simp only [encY]
      gi_wp2
      exact hK
    case body_0_done =>
      rintro l' pre x C W ⟨rfl, hic, hle⟩ hcm hf hlen hsp
      have m0 : W.cell? ⟨w.heap.size, 0, none⟩ = some (.int .i64 most) := (hcm.cell (a := ⟨w.heap.size, 0, none⟩) (World.block_lt_of_cell? _ _ HL5.out.m) (by have := World.block_lt_of_cell? _ _ HL0.out.m; show w.heap.size ≠ _; exact Nat.ne_of_lt this)).trans HL5.out.m
      have hc0 := hic.c
      have hf0 := hic.f
      have HIC := Lib.hid hic
      have hmo := HMO.out
      have hlt := hic.lt
      have hpl : pre.length ≤ 1000 := by omega
      clear hcm hf hlen hsp hic
      by_cases hb : most ≤ (pre.length : Int)
      · have HLE := Lib.hid hle
        gi_wp2_with fail
        exact ⟨_, fun k hk => Or.inl hk, fun k hk => by subst hk; exact hlt, Came.refl _ _, rfl, rfl, pre.length, by simp, HIC.out, hb, HLE.out⟩
      · gi_wp2_with fail
        refine ⟨fun k => k = W0.heap.size, fun k hk => Or.inl hk, fun k hk => by subst hk; rw [World.size_setCell]; exact hlt, ⟨rfl, rfl, rfl, by rw [World.size_setCell]; exact Nat.le_refl _, fun k _ hn => Below.heap_setCell W ⟨W0.heap.size, 0, none⟩ _ k hn⟩, rfl, ?_, .inl ?_⟩
        · rw [List.length_append, List.length_singleton]
          exact HIC.out.set _
        · rw [List.length_append, List.length_singleton]; omega
    case stop_0_done =>
      rintro D cd pre C W hpre ⟨rfl, rfl, n, hn, hic, hm1, hm2⟩ hcm hf rfl hD hsz
      exfalso
      have h1 := hpre.length_le
      rw [flatT_len, List.length_map] at h1
      omega
    case done_0_done =>
      rintro D ys C W hys ⟨rfl, hic, hle⟩ hcm hf rfl hD hsz
      have hk : (ys.length : Int) = (min (max most 0) (t.size : Int)) := by
        have h1 : ys.length = t.size := by rw [← flatT_len 0 t, ← hys, List.length_map]
        omega
      rw [hk] at hic
      have HDW0 := Lib.hid (show w.heap.size ≤ X0.heap.size from by have := HL0.out.bel.size; omega)
      have hb6 : Below W0.heap.size W0 W := HBX0.out.trans (hcm.below (by omega) (fun k hk => by omega))
      have HL6 := Lib.hid (HL0.out.next hb6)
      have HIC := Lib.hid hic
      have HD0 := Lib.hid hD
      have HIL : Hid (∀ W', Below W.heap.size W W' → W'.cell? ⟨W0.heap.size, 0, none⟩ = some (.int .i64 (min (max most 0) (t.size : Int)))) := Lib.hid (fun W' h => (HIC.out.next h).c)
      clear hb6 hcm hf hD hsz hic hk hys hle HL5 HI5 hnh hvh hbh hbh5 hz5
      generalize X0.heap.size = D0 at *
      clear HBX0
      have hk0 := HIC.out.c
      have HLd := Lib.hid (HL6.out.next (⟨rfl, rfl, rfl, Nat.le_refl _, fun _ _ => rfl⟩ : Below W.heap.size W W.drew))
      dsimp only
      go_wp2_with fail
      refine wp_mono (Q := NoP _) ?_ (fun e a w h => h.2)
      refine wp_region_held_drew (S := fun w' => Lf w most bn ⟨n1, n2, n3, n4, n5, n6⟩ t w' ∧ w'.cell? ⟨W0.heap.size, 0, none⟩ = some (.int .i64 (min (max most 0) (t.size : Int)))) (by kernel_rfl) (⟨HLd.out, hk0⟩) (fun hHeld => ?_)
      refine wpAnyH_take (i := 0) (oi := _) (v := ?_) rfl (by kernel_rfl) (by kernel_rfl) (by kernel_rfl) (fun c _ _ h => absurd rfl (h.1 c)) (Or.inl ⟨by rfl, ?_⟩) (by assumption) ?_
      rotate_left
      · (intro w hSw; obtain ⟨q0, qk⟩ := hSw; obtain ⟨qm, qa, qb, qc, qd⟩ := q0.cells; go_simp; try with_reducible rfl)
      try simp only [List.getElem_toArray, List.getElem_cons_zero, Act.put, List.setIfInBounds_toArray, List.set_cons_zero, List.set_cons_succ]
      refine wpAnyH_take (i := 1) (oi := _) (v := ?_) rfl (by kernel_rfl) (by kernel_rfl) (by kernel_rfl) (fun c _ _ h => absurd rfl (h.1 c)) (Or.inl ⟨by rfl, ?_⟩) (by assumption) ?_
      rotate_left
      · (intro w hSw; obtain ⟨q0, qk⟩ := hSw; obtain ⟨qm, qa, qb, qc, qd⟩ := q0.cells; go_simp; try with_reducible rfl)
      try simp only [List.getElem_toArray, List.getElem_cons_zero, List.getElem_cons_succ, Act.put, List.setIfInBounds_toArray, List.set_cons_zero, List.set_cons_succ]
      refine wpAnyH_take (i := 3) (oi := _) (v := ?_) rfl (by kernel_rfl) (by kernel_rfl) (by kernel_rfl) (fun c _ _ h => absurd rfl (h.1 c)) (Or.inl ⟨by rfl, ?_⟩) (by assumption) ?_
      rotate_left
      · (intro w hSw; obtain ⟨q0, qk⟩ := hSw; obtain ⟨qm, qa, qb, qc, qd⟩ := q0.cells; go_simp; try with_reducible rfl)
      try simp only [List.getElem_toArray, List.getElem_cons_zero, List.getElem_cons_succ, Act.put, List.setIfInBounds_toArray, List.set_cons_zero, List.set_cons_succ]
      refine wpAnyH_take (i := 2) (oi := _) (v := ?_) rfl (by kernel_rfl) (by kernel_rfl) (by kernel_rfl) (fun c _ _ h => absurd rfl (h.1 c)) (Or.inl ⟨by rfl, ?_⟩) (by assumption) ?_
      rotate_left
      · (intro w hSw; obtain ⟨q0, qk⟩ := hSw; obtain ⟨qm, qa, qb, qc, qd⟩ := q0.cells; go_simp; try with_reducible rfl)
      try simp only [List.getElem_toArray, List.getElem_cons_zero, List.getElem_cons_succ, Act.put, List.setIfInBounds_toArray, List.set_cons_zero, List.set_cons_succ]
      refine wpAnyH_ready (rs := [4]) (by kernel_rfl) (by simp) ?_
      refine AllReadyH.cons (o := _) rfl (fun K hK => ?_) AllReadyH.nil
      go_simp
      refine (size_of _ t 0 _ HLd.out.t (by omega)).mono ?_
      rintro e w8 ⟨rfl, hb8⟩
      have hbW : Below W.heap.size W w8 := (⟨rfl, rfl, rfl, Nat.le_refl _, fun _ _ => rfl⟩ : Below W.heap.size W W.drew).trans (hb8.mono (Nat.le_refl _))
      have HL8 := Lib.hid (HL6.out.next hbW)
      have HD0 := Lib.hid (mark_kept HD0.out hbW)
      have hk8 := HIL.out w8 hbW
      clear hb8 hbW
      refine hK.out _ _ (⟨HL8.out, hk8⟩) (fun hHeld => ?_)
      clear hK K
      try simp only [List.getElem_toArray, List.getElem_cons_zero, List.getElem_cons_succ, Act.put, List.setIfInBounds_toArray, List.set_cons_zero, List.set_cons_succ]
      refine wpAnyH_take (i := 5) (oi := _) (v := ?_) rfl (by kernel_rfl) (by kernel_rfl) (by kernel_rfl) (fun c _ _ h => absurd rfl (h.1 c)) (Or.inl ⟨by rfl, ?_⟩) (by assumption) ?_
      rotate_left
      · (intro w hSw; obtain ⟨q0, qk⟩ := hSw; obtain ⟨qm, qa, qb, qc, qd⟩ := q0.cells; go_simp; try with_reducible rfl)
      try simp only [List.getElem_toArray, List.getElem_cons_zero, List.getElem_cons_succ, Act.put, List.setIfInBounds_toArray, List.set_cons_zero, List.set_cons_succ]
      refine wpAnyH_take (i := 6) (oi := _) (v := ?_) rfl (by kernel_rfl) (by kernel_rfl) (by kernel_rfl) (fun c _ _ h => absurd rfl (h.1 c)) (Or.inl ⟨by rfl, ?_⟩) (by assumption) ?_
      rotate_left
      · (intro w hSw; obtain ⟨q0, qk⟩ := hSw; obtain ⟨qm, qa, qb, qc, qd⟩ := q0.cells; go_simp; try with_reducible rfl)
      try simp only [List.getElem_toArray, List.getElem_cons_zero, List.getElem_cons_succ, Act.put, List.setIfInBounds_toArray, List.set_cons_zero, List.set_cons_succ]
      refine wpAnyH_done (by kernel_rfl) ?_ _
      refine ⟨by simp, ?_⟩
      clear hHeld hk0 hk8 HLd HL6 HIC HIL HZ0
      clear HL0
      generalize W0.heap.size = B0 at *
      go_wp2_with fail
      have HL1 := HL8
      clear HL8
      generalize w8 = W1 at *
      rw [roundsIn_succ]
      refine wpIn_wide.2 ?_
      have hb4 : Below W1.heap.size W1 (W1.alloc (.cells #[.int .i64 0] 3)) := (Below.refl _ _).alloc (Nat.le_refl _) _
      have hz4 : (W1.alloc (.cells #[.int .i64 0] 3)).heap.size = W1.heap.size + 1 := by simp
      have CA1 := Lib.hid (all_call ⟨n1, n2, n3, n4, n5, n6⟩ t 0 _ (HL1.out.next hb4).t (by omega) HTX.out)
      have HI1 : Hid (IC (W1.alloc (.cells #[.int .i64 0] 3)) W1.heap.size 0) := Lib.hid (IC.new W1 0)
      have HLa1 := Lib.hid (HL1.out.next hb4)
      have HZ1 := Lib.hid hz4
      have HB41 := Lib.hid hb4
      obtain ⟨_, y0, y1, y2, y3⟩ := HLa1.out.cells
      have hbl : bn < W1.heap.size := HL1.out.n.lt
      have hbn : bn ≠ W1.heap.size := Nat.ne_of_lt HL1.out.n.lt
      have hbn2 := Ne.symm hbn
      simp only [Nd.val] at CA1
      clear hb4 hz4
      go_wp2_with fail
      refine CA1.out.mono ?_
      rintro e X1 ⟨bh, m2, rfl, hbh, hnh, hvh, hb5⟩
      clear y0 y1 y2 y3 hbn hbn2 hbl CA1
      have HL5 := Lib.hid (HLa1.out.next hb5)
      have HI5 := Lib.hid (HI1.out.next hb5)
      have hz5 := hb5.size
      have hz4 := HZ1.out
      rw [hz4] at hz5 hbh hvh
      have HBX1 : Hid (Below W1.heap.size W1 X1) := Lib.hid (HB41.out.trans (hb5.mono HB41.out.size))
      have hbh5 := hnh.lt
      clear hb5 HI1 HLa1 hz4 HB41
      dsimp only
      go_wp2_with fail
      refine (wpIn_wide (n := 6)).1 ?_
      refine wpIn_rangeC (F := Fence.wide) rfl (by omega) (gf := 27) (lb := #[.pointer (some ⟨bh, 0, none⟩)]) rfl trivial (enters_of Tryd.func27 (by kernel_rfl) rfl)
        (all_seq hnh hvh (by omega) HTX.out _ (by omega)) (Below.refl _ _) (fun _ => rfl) (fun k => k = W1.heap.size) (fun k hk hc => by rcases hk with h | h <;> omega) (fun k hk => by rcases hk with h | h <;> omega) (fun k hc => by omega)
        (fun (pre : List (Nat × Nd)) C W => (C = fun k => k = W1.heap.size) ∧ IC W W1.heap.size (pre.length : Int) ∧ ((pre.length : Int) ≤ most ∨ pre.length = 0))
        (fun cd pre C W => cd = .exit 2 ∧ (C = fun k => k = W1.heap.size) ∧ ∃ n : Nat, pre.length = n + 1 ∧ IC W W1.heap.size (n : Int) ∧ most ≤ (n : Int) ∧ ((n : Int) ≤ most ∨ n = 0)) ?hI_1_done ?hIx_1_done ⟨rfl, HI5.out, .inr rfl⟩ ?aa_1_done ?assign_1_done ?body_1_done ?done_1_done ?stop_1_done
      case hI_1_done =>
        rintro pre C A B ⟨rfl, h1, h3⟩ hs
        exact ⟨rfl, h1.kept (hs.block _ rfl), h3⟩
      case hIx_1_done =>
        rintro cd pre C A B ⟨hcd, rfl, n, h0, h1, h2⟩ hs
        exact ⟨hcd, rfl, n, h0, h1.kept (hs.block _ rfl), h2⟩
      case assign_1_done =>
        intro l' x W K hK
        simp only [encY]
        gi_wp2
        exact hK
      case body_1_done =>
        rintro l' pre x C W ⟨rfl, hic, hle⟩ hcm hf hlen hsp
        have m0 : W.cell? ⟨w.heap.size, 0, none⟩ = some (.int .i64 most) := (hcm.cell (a := ⟨w.heap.size, 0, none⟩) (World.block_lt_of_cell? _ _ HL5.out.m) (by have := World.block_lt_of_cell? _ _ HL1.out.m; show w.heap.size ≠ _; exact Nat.ne_of_lt this)).trans HL5.out.m
        have hc0 := hic.c
        have hf0 := hic.f
        have HIC := Lib.hid hic
        have hmo := HMO.out
        have hlt := hic.lt
        have hpl : pre.length ≤ 1000 := by omega
        clear hcm hf hlen hsp hic
        by_cases hb : most ≤ (pre.length : Int)
        · have HLE := Lib.hid hle
          gi_wp2_with fail
          exact ⟨_, fun k hk => Or.inl hk, fun k hk => by subst hk; exact hlt, Came.refl _ _, rfl, rfl, pre.length, by simp, HIC.out, hb, HLE.out⟩
        · gi_wp2_with fail
          refine ⟨fun k => k = W1.heap.size, fun k hk => Or.inl hk, fun k hk => by subst hk; rw [World.size_setCell]; exact hlt, ⟨rfl, rfl, rfl, by rw [World.size_setCell]; exact Nat.le_refl _, fun k _ hn => Below.heap_setCell W ⟨W1.heap.size, 0, none⟩ _ k hn⟩, rfl, ?_, .inl ?_⟩
          · rw [List.length_append, List.length_singleton]
            exact HIC.out.set _
          · rw [List.length_append, List.length_singleton]; omega
      case stop_1_done =>
        rintro D cd pre C W hpre ⟨rfl, rfl, n, hn, hic, hm1, hm2⟩ hcm hf rfl hD hsz
        exfalso
        have h1 := hpre.length_le
        rw [flatT_len, List.length_map] at h1
        omega
      case done_1_done =>
        rintro D ys C W hys ⟨rfl, hic, hle⟩ hcm hf rfl hD hsz
        have hk : (ys.length : Int) = (min (max most 0) (t.size : Int)) := by
          have h1 : ys.length = t.size := by rw [← flatT_len 0 t, ← hys, List.length_map]
          omega
        rw [hk] at hic
        have HDW1 := Lib.hid (show w.heap.size ≤ X1.heap.size from by have := HL1.out.bel.size; omega)
        have HDN := Lib.hid (show D0 ≠ X1.heap.size from by have := as_lt HD0.out; omega)
        have hb6 : Below W1.heap.size W1 W := HBX1.out.trans (hcm.below (by omega) (fun k hk => by omega))
        have HL6 := Lib.hid (HL1.out.next hb6)
        have HIC := Lib.hid hic
        have HD1 := Lib.hid hD
        have HD0 := Lib.hid (mark_kept HD0.out hb6)
        have HIL : Hid (∀ W', Below W.heap.size W W' → W'.cell? ⟨W1.heap.size, 0, none⟩ = some (.int .i64 (min (max most 0) (t.size : Int)))) := Lib.hid (fun W' h => (HIC.out.next h).c)
        clear hb6 hcm hf hD hsz hic hk hys hle HL5 HI5 hnh hvh hbh hbh5 hz5
        generalize X1.heap.size = D1 at *
        clear HBX1
        have hk0 := HIC.out.c
        have HLd := Lib.hid (HL6.out.next (⟨rfl, rfl, rfl, Nat.le_refl _, fun _ _ => rfl⟩ : Below W.heap.size W W.drew))
        dsimp only
        go_wp2_with fail
        refine wp_mono (Q := NoP _) ?_ (fun e a w h => h.2)
        refine wp_region_held_drew (S := fun w' => Lf w most bn ⟨n1, n2, n3, n4, n5, n6⟩ t w' ∧ w'.cell? ⟨W1.heap.size, 0, none⟩ = some (.int .i64 (min (max most 0) (t.size : Int)))) (by kernel_rfl) (⟨HLd.out, hk0⟩) (fun hHeld => ?_)
        refine wpAnyH_take (i := 0) (oi := _) (v := ?_) rfl (by kernel_rfl) (by kernel_rfl) (by kernel_rfl) (fun c _ _ h => absurd rfl (h.1 c)) (Or.inl ⟨by rfl, ?_⟩) (by assumption) ?_
        rotate_left
        · (intro w hSw; obtain ⟨q0, qk⟩ := hSw; obtain ⟨qm, qa, qb, qc, qd⟩ := q0.cells; go_simp; try with_reducible rfl)
        try simp only [List.getElem_toArray, List.getElem_cons_zero, Act.put, List.setIfInBounds_toArray, List.set_cons_zero, List.set_cons_succ]
        refine wpAnyH_take (i := 1) (oi := _) (v := ?_) rfl (by kernel_rfl) (by kernel_rfl) (by kernel_rfl) (fun c _ _ h => absurd rfl (h.1 c)) (Or.inl ⟨by rfl, ?_⟩) (by assumption) ?_
        rotate_left
        · (intro w hSw; obtain ⟨q0, qk⟩ := hSw; obtain ⟨qm, qa, qb, qc, qd⟩ := q0.cells; go_simp; try with_reducible rfl)
        try simp only [List.getElem_toArray, List.getElem_cons_zero, List.getElem_cons_succ, Act.put, List.setIfInBounds_toArray, List.set_cons_zero, List.set_cons_succ]
        refine wpAnyH_take (i := 3) (oi := _) (v := ?_) rfl (by kernel_rfl) (by kernel_rfl) (by kernel_rfl) (fun c _ _ h => absurd rfl (h.1 c)) (Or.inl ⟨by rfl, ?_⟩) (by assumption) ?_
        rotate_left
        · (intro w hSw; obtain ⟨q0, qk⟩ := hSw; obtain ⟨qm, qa, qb, qc, qd⟩ := q0.cells; go_simp; try with_reducible rfl)
        try simp only [List.getElem_toArray, List.getElem_cons_zero, List.getElem_cons_succ, Act.put, List.setIfInBounds_toArray, List.set_cons_zero, List.set_cons_succ]
        refine wpAnyH_take (i := 2) (oi := _) (v := ?_) rfl (by kernel_rfl) (by kernel_rfl) (by kernel_rfl) (fun c _ _ h => absurd rfl (h.1 c)) (Or.inl ⟨by rfl, ?_⟩) (by assumption) ?_
        rotate_left
        · (intro w hSw; obtain ⟨q0, qk⟩ := hSw; obtain ⟨qm, qa, qb, qc, qd⟩ := q0.cells; go_simp; try with_reducible rfl)
        try simp only [List.getElem_toArray, List.getElem_cons_zero, List.getElem_cons_succ, Act.put, List.setIfInBounds_toArray, List.set_cons_zero, List.set_cons_succ]
        refine wpAnyH_ready (rs := [4]) (by kernel_rfl) (by simp) ?_
        refine AllReadyH.cons (o := _) rfl (fun K hK => ?_) AllReadyH.nil
        go_simp
        refine (size_of _ t 0 _ HLd.out.t (by omega)).mono ?_
        rintro e w8 ⟨rfl, hb8⟩
        have hbW : Below W.heap.size W w8 := (⟨rfl, rfl, rfl, Nat.le_refl _, fun _ _ => rfl⟩ : Below W.heap.size W W.drew).trans (hb8.mono (Nat.le_refl _))
        have HL8 := Lib.hid (HL6.out.next hbW)
        have HD0 := Lib.hid (mark_kept HD0.out hbW)
        have HD1 := Lib.hid (mark_kept HD1.out hbW)
        have hk8 := HIL.out w8 hbW
        clear hb8 hbW
        refine hK.out _ _ (⟨HL8.out, hk8⟩) (fun hHeld => ?_)
        clear hK K
        try simp only [List.getElem_toArray, List.getElem_cons_zero, List.getElem_cons_succ, Act.put, List.setIfInBounds_toArray, List.set_cons_zero, List.set_cons_succ]
        refine wpAnyH_take (i := 5) (oi := _) (v := ?_) rfl (by kernel_rfl) (by kernel_rfl) (by kernel_rfl) (fun c _ _ h => absurd rfl (h.1 c)) (Or.inl ⟨by rfl, ?_⟩) (by assumption) ?_
        rotate_left
        · (intro w hSw; obtain ⟨q0, qk⟩ := hSw; obtain ⟨qm, qa, qb, qc, qd⟩ := q0.cells; go_simp; try with_reducible rfl)
        try simp only [List.getElem_toArray, List.getElem_cons_zero, List.getElem_cons_succ, Act.put, List.setIfInBounds_toArray, List.set_cons_zero, List.set_cons_succ]
        refine wpAnyH_take (i := 6) (oi := _) (v := ?_) rfl (by kernel_rfl) (by kernel_rfl) (by kernel_rfl) (fun c _ _ h => absurd rfl (h.1 c)) (Or.inl ⟨by rfl, ?_⟩) (by assumption) ?_
        rotate_left
        · (intro w hSw; obtain ⟨q0, qk⟩ := hSw; obtain ⟨qm, qa, qb, qc, qd⟩ := q0.cells; go_simp; try with_reducible rfl)
        try simp only [List.getElem_toArray, List.getElem_cons_zero, List.getElem_cons_succ, Act.put, List.setIfInBounds_toArray, List.set_cons_zero, List.set_cons_succ]
        refine wpAnyH_done (by kernel_rfl) ?_ _
        refine ⟨by simp, ?_⟩
        clear hHeld hk0 hk8 HLd HL6 HIC HIL HZ1
        clear HL1
        generalize W1.heap.size = B1 at *
        go_wp2_with fail
        have HL2 := HL8
        clear HL8
        generalize w8 = W2 at *
        rw [roundsIn_succ]
        refine wpIn_wide.2 ?_
        go_wp2_with fail
        refine (awake_any _ (as_tab HT.out HL2.out.bel HL2.out.bel.size)).mono ?_
        rintro e w9 ⟨rfl, hb9⟩
        have HD0 := Lib.hid (mark_kept HD0.out hb9)
        have HD1 := Lib.hid (mark_kept HD1.out hb9)
        have HBZ := Lib.hid (HL2.out.next hb9).bel
        clear hb9
        go_wp2_with fail
        have hne : D0 ≠ D1 := HDN.out
        refine ⟨by simp, .inl ⟨_, _, rfl, run_takeDeferred HD1.out, ⟨by simp, .inl ⟨_, _, rfl, run_takeDeferred ((World.putObj_heap_other hne).trans HD0.out), ?_⟩⟩⟩⟩
        refine ⟨.bool true, ?_, rfl, below_put (below_put HBZ.out HDW1.out _) HDW0.out _⟩
        simp [results, Tryd.results5, go_sem]
end Go.Proofs.YtgahamppfdhnaaaDoor
