/-
  THE WALK of AstPrints.
-/
import Derived.Test.YtgahamppfdhnaaaDoorAsLet
import Derived.Deep.RegionHeld3
namespace Go.Proofs.YtgahamppfdhnaaaDoor
open Go.RowKit

theorem textL_nil0 : textL ⟨#[]⟩ = [] := by unfold textL; exact if_pos rfl
theorem textL_len (tx : ByteArray) (h : tx.size ≤ 20) : (textL tx).length ≤ 42 := by
  unfold textL
  split
  · simp
  · have := as_itoa_len tx.size (by omega)
    simp only [List.length_cons, List.length_append, Array.length_toList]
    have h2 : tx.data.size = tx.size := rfl
    omega
theorem kidsL_len {f : Nat → T} (h : ∀ k, (printL (f k)).length + 1 ≤ 100 * (f k).size) : ∀ m : List Nat, (kidsL (m.map f)).length ≤ 100 * sizeL (m.map f)
  | [] => by simp [kidsL]
  | k :: m => by
    have h1 := h k
    have h2 := kidsL_len h m
    rw [List.map_cons, kidsL, sizeL]
    simp only [List.length_cons, List.length_append]
    omega
theorem grow_plen (l : List Pa) : ∀ (n i : Nat), (printL (growF l n i)).length + 1 ≤ 100 * (growF l n i).size
  | 0, i => by rw [growF, printL, T.size, textL_nil0]; simp [kidsL, sizeL]
  | n + 1, i => by
    rw [growF]
    split
    · rw [printL, T.size, textL_nil0]; simp [kidsL, sizeL]
    · rename_i a _
      have h1 := kidsL_len (f := growF l n) (grow_plen l n) ((List.range' (i + 1) (l.length - (i + 1))).filter (kidI l i))
      have h2 := textL_len (cutB a.tx 20) (cutB_size _ _)
      have h3 := cutB_size a.op 10
      rw [printL, T.size]
      simp only [List.length_cons, List.length_append, List.length_nil, Array.length_toList]
      have h4 : (cutB a.op 10).data.size = (cutB a.op 10).size := rfl
      omega
theorem treeOf_plen (l : List Pa) : (printL (treeOf l)).length ≤ 1000000 := by
  unfold treeOf
  split
  · rw [printL, textL_nil0]; simp [kidsL]
  · rename_i h
    have h1 := grow_plen (l.take 30) (l.take 30).length 0
    have h2 := treeOf_size l
    unfold treeOf at h2
    rw [if_neg h] at h2
    unfold growT at h2 ⊢
    omega
/-- What AstPrints keeps. -/
structure Pr2 (w : World) (bm bn : Nat) (N M : Nd) (t u : T) (W : World) : Prop where
  bel : Below w.heap.size w W
  n1 : NodeAt W bm 0 N
  t1 : VT W 0 N t
  n2 : NodeAt W bn 0 M
  t2 : VT W 0 M u
theorem Pr2.next {w W W' : World} {bm bn : Nat} {N M : Nd} {t u : T} (h : Pr2 w bm bn N M t u W) (hb : Below W.heap.size W W') : Pr2 w bm bn N M t u W' :=
  ⟨h.bel.trans (hb.mono h.bel.size), h.n1.kept (hb.block _ h.n1.lt), h.t1.next hb, h.n2.kept (hb.block _ h.n2.lt), h.t2.next hb⟩
theorem Pr2.cells {w W : World} {bm bn : Nat} {a b : ByteArray} {c : Int} {d : Option Addr} {e f : Nat} {a' b' : ByteArray} {c' : Int} {d' : Option Addr} {e' f' : Nat} {t u : T} (h : Pr2 w bm bn ⟨a, b, c, d, e, f⟩ ⟨a', b', c', d', e', f'⟩ t u W) :
    (W.cell? ⟨bm, 0, none⟩ = some (.string a) ∧ W.cell? ⟨bm, 1, none⟩ = some (.string b) ∧ W.cell? ⟨bm, 2, none⟩ = some (.int .i64 c) ∧ W.cell? ⟨bm, 3, none⟩ = some (.slice d e f)) ∧
    W.cell? ⟨bn, 0, none⟩ = some (.string a') ∧ W.cell? ⟨bn, 1, none⟩ = some (.string b') ∧ W.cell? ⟨bn, 2, none⟩ = some (.int .i64 c') ∧ W.cell? ⟨bn, 3, none⟩ = some (.slice d' e' f') :=
  ⟨⟨h.n1.c0, h.n1.c1, h.n1.c2, h.n1.c3⟩, h.n2.c0, h.n2.c1, h.n2.c2, h.n2.c3⟩
theorem letters_two {w : World} {args : Array Value} {t : T} (h : Calls Tryd.prog 21 args w fun e w' => e = .returned (.int .i64 (if lettersT t then 0 else -1)) ∧ Below w.heap.size w w') :
    ∃ v, Hid (Calls Tryd.prog 21 args w fun e w' => e = .returned (.int .i64 v) ∧ Below w.heap.size w w') ∧ ((v = 0 ∧ lettersT t = true) ∨ (v = -1 ∧ lettersT t = false)) := by
  refine ⟨_, Lib.hid h, ?_⟩
  cases lettersT t
  · right; exact ⟨rfl, rfl⟩
  · left; exact ⟨rfl, rfl⟩
theorem drew_below (W : World) : Below W.heap.size W W.drew := ⟨rfl, rfl, rfl, Nat.le_refl _, fun _ _ => rfl⟩
set_option maxHeartbeats 16000000 in
set_option maxRecDepth 100000 in
theorem prints_walk (q : Option Addr) (cap : Nat) (l : List Pa) (q2 : Option Addr) (cap2 : Nat) (l2 : List Pa) (w : World) (hA : PaAt w q l) (hl : l.length ≤ maxLen) (hcap : l.length ≤ cap) (hok : ∀ a ∈ l, a.ok) (hA2 : PaAt w q2 l2) (hl2 : l2.length ≤ maxLen) (hcap2 : l2.length ≤ cap2) (hok2 : ∀ a ∈ l2, a.ok) (htab : Lib.TabBelow Tryd.prog w.heap.size w "internal/strconv.uint64pow10" .u64 Lib.pow10Tab) :
    Calls Tryd.prog 4 #[.slice q l.length cap, .slice q2 l2.length cap2] w fun e w' => e = .returned (.bool true) ∧ Below w.heap.size w w' := by
  have CG := Lib.hid (fun W (h : Below w.heap.size w W) => gw_any q cap l W (hA.next h) hok hl hcap)
  have CG2 := Lib.hid (fun W (h : Below w.heap.size w W) => gw_any q2 cap2 l2 W (hA2.next h) hok2 hl2 hcap2)
  have htz := treeOf_size l
  have huz := treeOf_size l2
  have HTX := Lib.hid (treeOf_txok l)
  have HUX := Lib.hid (treeOf_txok l2)
  have HTP := Lib.hid (treeOf_plen l)
  have HUP := Lib.hid (treeOf_plen l2)
  have HPS : Hid (lettersT (treeOf l) = true → lettersT (treeOf l2) = true → eqB ⟨(printL (treeOf l)).toArray⟩ ⟨(printL (treeOf l2)).toArray⟩ = sameT (treeOf l) (treeOf l2)) := Lib.hid fun h1 h2 => print_same (treeOf_okp h1) (treeOf_okp h2)
  generalize treeOf l = t at *
  generalize treeOf l2 = u at *
  have HT := Lib.hid htab
  clear hA hok htab hcap hl hA2 hl2 hcap2 hok2
  go_enter Tryd.func4, Tryd.ntmps4
  go_wp2_with fail
  refine (awake_any _ HT.out).mono ?_
  rintro e w1 ⟨rfl, hb1⟩
  have HB1 := Lib.hid hb1
  clear hb1
  go_wp2_with fail
  refine (CG.out _ HB1.out).mono ?_
  rintro e w2 ⟨⟨n1, n2, n3, n4, n5, n6⟩, ⟨m1, m2, m3, m4, m5, m6⟩, rfl, hv2, _, hb2⟩
  have hb3 : Below w2.heap.size w2 ((w2.alloc (.cells #[.string n1, .string n2, .int .i64 n3, .slice n4 n5 n6] 25)).alloc (.cells #[.string m1, .string m2, .int .i64 m3, .slice m4 m5 m6] 28)) := ((Below.refl _ _).alloc (Nat.le_refl _) _).alloc (by simp) _
  have hn3 : NodeAt ((w2.alloc (.cells #[.string n1, .string n2, .int .i64 n3, .slice n4 n5 n6] 25)).alloc (.cells #[.string m1, .string m2, .int .i64 m3, .slice m4 m5 m6] 28)) w2.heap.size 0 ⟨n1, n2, n3, n4, n5, n6⟩ := (node_new w2 ⟨n1, n2, n3, n4, n5, n6⟩).kept (Below.heap_alloc _ _ _ (by simp))
  have hb23 : Below w1.heap.size w1 ((w2.alloc (.cells #[.string n1, .string n2, .int .i64 n3, .slice n4 n5 n6] 25)).alloc (.cells #[.string m1, .string m2, .int .i64 m3, .slice m4 m5 m6] 28)) := hb2.trans (hb3.mono hb2.size)
  have HB3 := Lib.hid (HB1.out.trans (hb23.mono HB1.out.size))
  have HN3 := Lib.hid hn3
  have HV3 := Lib.hid ((hv2.less (Nat.zero_le _)).next hb3)
  clear hv2 hb2 hb3 hn3 hb23 CG HB1
  simp only [Nd.val]
  go_wp2_with fail
  generalize ((w2.alloc (.cells #[.string n1, .string n2, .int .i64 n3, .slice n4 n5 n6] 25)).alloc (.cells #[.string m1, .string m2, .int .i64 m3, .slice m4 m5 m6] 28)) = W3 at *
  generalize w2.heap.size = bm at *
  refine (CG2.out _ HB3.out).mono ?_
  rintro e w4 ⟨⟨p1, p2, p3, p4, p5, p6⟩, ⟨r1, r2, r3, r4, r5, r6⟩, rfl, hv4, _, hb4⟩
  have hb5 : Below w4.heap.size w4 ((w4.alloc (.cells #[.string p1, .string p2, .int .i64 p3, .slice p4 p5 p6] 25)).alloc (.cells #[.string r1, .string r2, .int .i64 r3, .slice r4 r5 r6] 28)) := ((Below.refl _ _).alloc (Nat.le_refl _) _).alloc (by simp) _
  have hn5 : NodeAt ((w4.alloc (.cells #[.string p1, .string p2, .int .i64 p3, .slice p4 p5 p6] 25)).alloc (.cells #[.string r1, .string r2, .int .i64 r3, .slice r4 r5 r6] 28)) w4.heap.size 0 ⟨p1, p2, p3, p4, p5, p6⟩ := (node_new w4 ⟨p1, p2, p3, p4, p5, p6⟩).kept (Below.heap_alloc _ _ _ (by simp))
  have hb45 : Below W3.heap.size W3 ((w4.alloc (.cells #[.string p1, .string p2, .int .i64 p3, .slice p4 p5 p6] 25)).alloc (.cells #[.string r1, .string r2, .int .i64 r3, .slice r4 r5 r6] 28)) := hb4.trans (hb5.mono hb4.size)
  have HL0 : Hid (Pr2 w bm w4.heap.size ⟨n1, n2, n3, n4, n5, n6⟩ ⟨p1, p2, p3, p4, p5, p6⟩ t u ((w4.alloc (.cells #[.string p1, .string p2, .int .i64 p3, .slice p4 p5 p6] 25)).alloc (.cells #[.string r1, .string r2, .int .i64 r3, .slice r4 r5 r6] 28))) := Lib.hid
    ⟨HB3.out.trans (hb45.mono HB3.out.size), HN3.out.kept (hb45.block _ HN3.out.lt), HV3.out.next hb45, hn5, (hv4.less (Nat.zero_le _)).next hb5⟩
  obtain ⟨⟨y0, y1, y2, y3⟩, z0, z1, z2, z3⟩ := HL0.out.cells
  have hbm : bm < w4.heap.size := Nat.lt_of_lt_of_le HN3.out.lt hb4.size
  have hcl1 := letters_any _ t 0 _ HL0.out.t1 (by omega) HTX.out
  simp only [Nd.val] at hcl1
  obtain ⟨v1, CL1, hv1⟩ := letters_two hcl1
  have HV1 := Lib.hid hv1
  clear hcl1 hv1
  clear hv4 hb4 hb5 hn5 hb45 CG2 HB3 HN3 HV3
  simp only [Nd.val]
  go_wp2_with fail
  generalize ((w4.alloc (.cells #[.string p1, .string p2, .int .i64 p3, .slice p4 p5 p6] 25)).alloc (.cells #[.string r1, .string r2, .int .i64 r3, .slice r4 r5 r6] 28)) = W5 at *
  generalize w4.heap.size = bn at *
  refine CL1.out.mono ?_
  rintro e w6 ⟨rfl, hb6⟩
  have HL6 := Lib.hid (HL0.out.next hb6)
  have hcl2 := letters_any _ u 0 _ HL6.out.t2 (by omega) HUX.out
  simp only [Nd.val] at hcl2
  obtain ⟨v2, CL2, hv2⟩ := letters_two hcl2
  have HV2 := Lib.hid hv2
  clear hcl2 hv2
  clear y0 y1 y2 y3 z0 z1 z2 z3 hb6 HL0 CL1 hbm
  obtain ⟨⟨y0, y1, y2, y3⟩, z0, z1, z2, z3⟩ := HL6.out.cells
  rcases HV1.out with ⟨rfl, ht⟩ | ⟨rfl, _⟩
  rotate_left
  · clear HPS HV1 HV2
    go_wp2_with fail
    refine (awake_any _ (as_tab HT.out HL6.out.bel HL6.out.bel.size)).mono ?_
    rintro e w9 ⟨rfl, hb9⟩
    have HB9 := Lib.hid (HL6.out.next hb9).bel
    clear hb9
    go_wp2_with fail
    go_ret
    exact ⟨rfl, HB9.out⟩
  · have HTT := Lib.hid ht
    clear ht HV1
    go_wp2_with fail
    refine CL2.out.mono ?_
    rintro e w7 ⟨rfl, hb7⟩
    have HL7 := Lib.hid (HL6.out.next hb7)
    clear y0 y1 y2 y3 z0 z1 z2 z3 hb7 HL6 CL2
    obtain ⟨⟨y0, y1, y2, y3⟩, z0, z1, z2, z3⟩ := HL7.out.cells
    rcases HV2.out with ⟨rfl, hu⟩ | ⟨rfl, _⟩
    rotate_left
    · clear HPS HTT HV2
      go_wp2_with fail
      refine (awake_any _ (as_tab HT.out HL7.out.bel HL7.out.bel.size)).mono ?_
      rintro e w9 ⟨rfl, hb9⟩
      have HB9 := Lib.hid (HL7.out.next hb9).bel
      clear hb9
      go_wp2_with fail
      go_ret
      exact ⟨rfl, HB9.out⟩
    · have hps := HPS.out HTT.out hu
      unfold eqB at hps
      have CP1 : Hid (∀ W, Below w.heap.size w W → VT W 0 ⟨n1, n2, n3, n4, n5, n6⟩ t → Calls Tryd.prog 11 #[.agg #[.string n1, .string n2, .int .i64 n3, .slice n4 n5 n6]] W fun e w' => e = .returned (.string ⟨(printL t).toArray⟩) ∧ Below W.heap.size W w') := Lib.hid fun W hb hv => Print_any ⟨n1, n2, n3, n4, n5, n6⟩ t 0 W hv HTP.out (as_tab HT.out hb hb.size)
      have CP2 : Hid (∀ W, Below w.heap.size w W → VT W 0 ⟨p1, p2, p3, p4, p5, p6⟩ u → Calls Tryd.prog 11 #[.agg #[.string p1, .string p2, .int .i64 p3, .slice p4 p5 p6]] W fun e w' => e = .returned (.string ⟨(printL u).toArray⟩) ∧ Below W.heap.size W w') := Lib.hid fun W hb hv => Print_any ⟨p1, p2, p3, p4, p5, p6⟩ u 0 W hv HUP.out (as_tab HT.out hb hb.size)
      have CS : Hid (∀ W, VT W 0 ⟨n1, n2, n3, n4, n5, n6⟩ t → VT W 0 ⟨p1, p2, p3, p4, p5, p6⟩ u → Calls Tryd.prog 13 #[.agg #[.string n1, .string n2, .int .i64 n3, .slice n4 n5 n6], .agg #[.string p1, .string p2, .int .i64 p3, .slice p4 p5 p6]] W fun e w' => e = .returned (.bool (sameT t u)) ∧ Below W.heap.size W w') := Lib.hid fun W h1 h2 => same_of ⟨n1, n2, n3, n4, n5, n6⟩ ⟨p1, p2, p3, p4, p5, p6⟩ t u 0 0 W h1 h2 (by omega)
      clear HPS HTT HV2 hu y0 y1 y2 y3 z0 z1 z2 z3 HTP HUP
      generalize (⟨(printL t).toArray⟩ : ByteArray) = pa at *
      generalize (⟨(printL u).toArray⟩ : ByteArray) = pb at *
      generalize sameT t u = sb at *
      have HLd := Lib.hid (HL7.out.next (drew_below w7))
      go_wp2_with fail
      refine wp_region_held_drew (S := fun w' => Pr2 w bm bn ⟨n1, n2, n3, n4, n5, n6⟩ ⟨p1, p2, p3, p4, p5, p6⟩ t u w') (by kernel_rfl) (HLd.out) (fun hHeld => ?_)
      refine wpAnyH_ready (rs := [0]) (by kernel_rfl) (by simp) ?_
      refine AllReadyH.cons (o := _) rfl (fun K hK => ?_) AllReadyH.nil
      go_simp
      refine (awake_any _ (as_tab HT.out HLd.out.bel HLd.out.bel.size)).mono ?_
      rintro e w8 ⟨rfl, hb8⟩
      have HL8 := Lib.hid (HLd.out.next hb8)
      clear hb8
      refine hK.out _ _ (HL8.out) (fun hHeld => ?_)
      clear hK K
      try simp only [List.getElem_toArray, List.getElem_cons_zero, List.getElem_cons_succ, Act.put, List.setIfInBounds_toArray, List.set_cons_zero, List.set_cons_succ]
      refine wpAnyH_take (i := 1) (oi := _) (v := ?_) rfl (by kernel_rfl) (by kernel_rfl) (by kernel_rfl) (fun _ _ _ h => h) (Or.inl ⟨by rfl, ?_⟩) (by assumption) ?_
      rotate_left
      · (intro w hSw; obtain ⟨⟨q0, q1, q2, q3⟩, k0, k1, k2, k3⟩ := hSw.cells; go_simp; try with_reducible rfl)
      try simp only [List.getElem_toArray, List.getElem_cons_zero, List.getElem_cons_succ, Act.put, List.setIfInBounds_toArray, List.set_cons_zero, List.set_cons_succ]
      refine wpAnyH_take (i := 2) (oi := _) (v := ?_) rfl (by kernel_rfl) (by kernel_rfl) (by kernel_rfl) (fun _ _ _ h => h) (Or.inl ⟨by rfl, ?_⟩) (by assumption) ?_
      rotate_left
      · (intro w hSw; obtain ⟨⟨q0, q1, q2, q3⟩, k0, k1, k2, k3⟩ := hSw.cells; go_simp; try with_reducible rfl)
      try simp only [List.getElem_toArray, List.getElem_cons_zero, List.getElem_cons_succ, Act.put, List.setIfInBounds_toArray, List.set_cons_zero, List.set_cons_succ]
      refine wpAnyH_take (i := 4) (oi := _) (v := ?_) rfl (by kernel_rfl) (by kernel_rfl) (by kernel_rfl) (fun _ _ _ h => h) (Or.inl ⟨by rfl, ?_⟩) (by assumption) ?_
      rotate_left
      · (intro w hSw; obtain ⟨⟨q0, q1, q2, q3⟩, k0, k1, k2, k3⟩ := hSw.cells; go_simp; try with_reducible rfl)
      try simp only [List.getElem_toArray, List.getElem_cons_zero, List.getElem_cons_succ, Act.put, List.setIfInBounds_toArray, List.set_cons_zero, List.set_cons_succ]
      refine wpAnyH_take (i := 7) (oi := _) (v := ?_) rfl (by kernel_rfl) (by kernel_rfl) (by kernel_rfl) (fun _ _ _ h => h) (Or.inl ⟨by rfl, ?_⟩) (by assumption) ?_
      rotate_left
      · (intro w hSw; obtain ⟨⟨q0, q1, q2, q3⟩, k0, k1, k2, k3⟩ := hSw.cells; go_simp; try with_reducible rfl)
      try simp only [List.getElem_toArray, List.getElem_cons_zero, List.getElem_cons_succ, Act.put, List.setIfInBounds_toArray, List.set_cons_zero, List.set_cons_succ]
      refine wpAnyH_take (i := 8) (oi := _) (v := ?_) rfl (by kernel_rfl) (by kernel_rfl) (by kernel_rfl) (fun _ _ _ h => h) (Or.inl ⟨by rfl, ?_⟩) (by assumption) ?_
      rotate_left
      · (intro w hSw; obtain ⟨⟨q0, q1, q2, q3⟩, k0, k1, k2, k3⟩ := hSw.cells; go_simp; try with_reducible rfl)
      try simp only [List.getElem_toArray, List.getElem_cons_zero, List.getElem_cons_succ, Act.put, List.setIfInBounds_toArray, List.set_cons_zero, List.set_cons_succ]
      refine wpAnyH_ready (rs := [3]) (by kernel_rfl) (by simp) ?_
      refine AllReadyH.cons (o := _) rfl (fun K hK => ?_) AllReadyH.nil
      go_simp
      refine (CP1.out _ HL8.out.bel HL8.out.t1).mono ?_
      rintro e w8 ⟨rfl, hb8⟩
      have HL9 := Lib.hid (HL8.out.next hb8)
      clear hb8
      refine hK.out _ _ (HL9.out) (fun hHeld => ?_)
      clear hK K
      try simp only [List.getElem_toArray, List.getElem_cons_zero, List.getElem_cons_succ, Act.put, List.setIfInBounds_toArray, List.set_cons_zero, List.set_cons_succ]
      refine wpAnyH_ready (rs := [5]) (by kernel_rfl) (by simp) ?_
      refine AllReadyH.cons (o := _) rfl (fun K hK => ?_) AllReadyH.nil
      go_simp
      refine (CP2.out _ HL9.out.bel HL9.out.t2).mono ?_
      rintro e w8 ⟨rfl, hb8⟩
      have HL10 := Lib.hid (HL9.out.next hb8)
      clear hb8
      refine hK.out _ _ (HL10.out) (fun hHeld => ?_)
      clear hK K
      try simp only [List.getElem_toArray, List.getElem_cons_zero, List.getElem_cons_succ, Act.put, List.setIfInBounds_toArray, List.set_cons_zero, List.set_cons_succ]
      refine wpAnyH_take (i := 6) (oi := _) (v := ?_) rfl (by kernel_rfl) (by kernel_rfl) (by kernel_rfl) (fun _ _ _ h => h) (Or.inl ⟨by rfl, ?_⟩) (by assumption) ?_
      rotate_left
      · (intro w hSw; obtain ⟨⟨q0, q1, q2, q3⟩, k0, k1, k2, k3⟩ := hSw.cells; go_simp; try with_reducible rfl)
      try simp only [List.getElem_toArray, List.getElem_cons_zero, List.getElem_cons_succ, Act.put, List.setIfInBounds_toArray, List.set_cons_zero, List.set_cons_succ]
      refine wpAnyH_ready (rs := [9]) (by kernel_rfl) (by simp) ?_
      refine AllReadyH.cons (o := _) rfl (fun K hK => ?_) AllReadyH.nil
      go_simp
      refine (CS.out _ HL10.out.t1 HL10.out.t2).mono ?_
      rintro e w8 ⟨rfl, hb8⟩
      have HL11 := Lib.hid (HL10.out.next hb8)
      clear hb8
      refine hK.out _ _ (HL11.out) (fun hHeld => ?_)
      clear hK K
      try simp only [List.getElem_toArray, List.getElem_cons_zero, List.getElem_cons_succ, Act.put, List.setIfInBounds_toArray, List.set_cons_zero, List.set_cons_succ]
      refine wpAnyH_take (i := 10) (oi := _) (v := ?_) rfl (by kernel_rfl) (by kernel_rfl) (by kernel_rfl) (fun _ _ _ h => h) (Or.inl ⟨by rfl, ?_⟩) (by assumption) ?_
      rotate_left
      · (intro w hSw; obtain ⟨⟨q0, q1, q2, q3⟩, k0, k1, k2, k3⟩ := hSw.cells; go_simp; try with_reducible rfl)
      try simp only [List.getElem_toArray, List.getElem_cons_zero, List.getElem_cons_succ, Act.put, List.setIfInBounds_toArray, List.set_cons_zero, List.set_cons_succ]
      refine wpAnyH_take (i := 11) (oi := _) (v := ?_) rfl (by kernel_rfl) (by kernel_rfl) (by kernel_rfl) (fun _ _ _ h => h) (Or.inl ⟨by rfl, ?_⟩) (by assumption) ?_
      rotate_left
      · (intro w hSw; obtain ⟨⟨q0, q1, q2, q3⟩, k0, k1, k2, k3⟩ := hSw.cells; go_simp; try with_reducible rfl)
      try simp only [List.getElem_toArray, List.getElem_cons_zero, List.getElem_cons_succ, Act.put, List.setIfInBounds_toArray, List.set_cons_zero, List.set_cons_succ]
      refine wpAnyH_take (i := 12) (oi := _) (v := ?_) rfl (by kernel_rfl) (by kernel_rfl) (by kernel_rfl) (fun _ _ _ h => h) (Or.inl ⟨by rfl, ?_⟩) (by assumption) ?_
      rotate_left
      · (intro w hSw; obtain ⟨⟨q0, q1, q2, q3⟩, k0, k1, k2, k3⟩ := hSw.cells; go_simp; try with_reducible rfl)
      try simp only [List.getElem_toArray, List.getElem_cons_zero, List.getElem_cons_succ, Act.put, List.setIfInBounds_toArray, List.set_cons_zero, List.set_cons_succ]
      refine wpAnyH_done (by kernel_rfl) ?_ _
      cases sb
      all_goals
        go_wp2_with fail
        go_ret
        exact ⟨rfl, HL11.out.bel⟩
end Go.Proofs.YtgahamppfdhnaaaDoor
