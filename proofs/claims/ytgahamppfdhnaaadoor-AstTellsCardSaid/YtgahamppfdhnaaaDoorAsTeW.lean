/-
  THE WALK of AstTells.
-/
import Derived.Test.YtgahamppfdhnaaaDoorAsTeM
import Derived.Deep.RegionHeld3
import Derived.Deep.DeepCutAuto
import Derived.Deep.CutBlock
namespace Go.Proofs.YtgahamppfdhnaaaDoor
open Go.RowKit Go.Shelf
attribute [local go_sem] Oper.semAt_some

theorem first_at {L : List (Nat × T)} {m : T → Bool} {p q : List (Nat × T)} {x : Nat × T} {k : Nat} (h : L = p ++ x :: q) (hp : ∀ y ∈ p, m y.2 = false) (hx : m x.2 = true) (hk : k < L.length) (hS : ∀ (j : Nat) (h : j < L.length), j < k → m L[j].2 = false) (hm : m L[k].2 = true) : L[k] = x := by
  subst h
  have hl : p.length < (p ++ x :: q).length := by simp
  have hxl : (p ++ x :: q)[p.length] = x := by simp
  rcases Nat.lt_trichotomy k p.length with h | h | h
  · rw [List.getElem_append_left h] at hm
    rw [hp _ (List.getElem_mem h)] at hm
    cases hm
  · subst h; exact hxl
  · have := hS p.length hl h
    rw [hxl, hx] at this
    cases this
theorem with_act {F : Fence} {n : Nat} {P : Program} {c : Code} {Q : Exit → Act → World → Prop} {a : Act} {w : World} (h : ∀ a0, a0 = a → c.wpIn F n P Q a0 w) : c.wpIn F n P Q a w := h a rfl
structure TeI (b14 b15 : Nat) (pre : List (Nat × Nd × T)) (C : Nat → Prop) (W : World) : Prop where
  c : C = fun k => k = b14 ∨ k = b15
  i : IC W b14 (pre.length : Int)
  d : IC W b15 (deepD (pre.map keyY2) : Int)
theorem treeOf_plen9 (l : List Pa) : (printL (treeOf l)).length ≤ 90000 := by
  unfold treeOf
  split
  · rw [printL, textL_nil0]; simp [kidsL]
  · rename_i h
    have h1 := grow_plen (l.take 30) (l.take 30).length 0
    have h2 := treeOf_size l
    unfold treeOf at h2
    rw [if_neg h] at h2
    unfold growT at h2 ⊢
    omega
set_option maxHeartbeats 32000000 in
set_option maxRecDepth 100000 in
theorem tells_walk (q : Option Addr) (cap : Nat) (l : List Pa) (q2 : Option Addr) (cap2 : Nat) (l2 : List Pa) (op : ByteArray) (most : Int) (w : World) (hA : PaAt w q l) (hl : l.length ≤ maxLen) (hcap : l.length ≤ cap) (hok : ∀ a ∈ l, a.ok) (hA2 : PaAt w q2 l2) (hl2 : l2.length ≤ maxLen) (hcap2 : l2.length ≤ cap2) (hok2 : ∀ a ∈ l2, a.ok) (hop : op.size ≤ maxLen) (htab : Lib.TabBelow Tryd.prog w.heap.size w "internal/strconv.uint64pow10" .u64 Lib.pow10Tab) :
    Calls Tryd.prog 3 #[.slice q l.length cap, .slice q2 l2.length cap2, .string op, .int .i64 most] w fun e w' => e = .returned (.bool true) ∧ Below w.heap.size w w' := by
  have hba : Below w.heap.size w (w.alloc (.cells #[.bool false] 4)) := (Below.refl _ _).alloc (Nat.le_refl _) _
  have hrb := as_heap_alloc w (.cells #[.bool false] 4)
  have HBA := Lib.hid hba
  have HRB := Lib.hid hrb
  have CG := Lib.hid (fun W (h : Below w.heap.size w W) => gw_any q cap l W (hA.next h) hok hl hcap)
  have CG2 := Lib.hid (fun W (h : Below w.heap.size w W) => gw_any q2 cap2 l2 W (hA2.next h) hok2 hl2 hcap2)
  have CU := Lib.hid (fun W => cut_any op 10 W hop (by omega))
  have htz := treeOf_size l
  have huz := treeOf_size l2
  have HTX := Lib.hid (treeOf_txok l)
  have HTP := Lib.hid (treeOf_plen9 l)
  have hplen : ∀ l : List Pa, ∀ x ∈ flatTT 0 (treeOf l), (printL x.2).length ≤ 90000 ∧ TxOk x.2 ∧ x.2.size ≤ 30 := fun l => treeOf_sub l
  have HPL := Lib.hid (hplen l)
  clear hplen
  generalize treeOf l = t at *
  generalize treeOf l2 = u at *
  generalize cutB op 10 = op2 at *
  have HT := Lib.hid htab
  clear hA hok htab hcap hl hA2 hl2 hcap2 hok2 hba hrb hop
  refine (callsIn_wide (n := 6)).1 ?_
  refine callsIn_of_wp_marks Tryd.func3 rfl trivial ?_ rfl
  simp only [Tryd.ntmps3, List.size_toArray, List.length_cons, List.length_nil, Nat.reduceAdd, Nat.reduceSub, Array.replicate_succ, Array.replicate_zero, List.push_toArray, List.append_toArray, List.nil_append, List.cons_append]
  refine wpIn_wide.2 ?_
  go_wp2_with fail
  refine (CG.out _ HBA.out).mono ?_
  rintro e w2 ⟨⟨m1, m2, m3, m4, m5, m6⟩, ⟨x1, x2, x3, x4, x5, x6⟩, rfl, hv2, hx2, hb2⟩
  have htu := Tu.new w2 ⟨m1, m2, m3, m4, m5, m6⟩ ⟨x1, x2, x3, x4, x5, x6⟩ t (hv2.less (Nat.zero_le _)) (hx2.less (Nat.zero_le _))
  have hb3 : Below w2.heap.size w2 ((w2.alloc (.cells #[.string m1, .string m2, .int .i64 m3, .slice m4 m5 m6] 25)).alloc (.cells #[.string x1, .string x2, .int .i64 x3, .slice x4 x5 x6] 28)) := ((Below.refl _ _).alloc (Nat.le_refl _) _).alloc (by simp) _
  have hb23 := hb2.trans (hb3.mono hb2.size)
  have HE3 : Hid (Te w w2.heap.size ⟨m1, m2, m3, m4, m5, m6⟩ ⟨x1, x2, x3, x4, x5, x6⟩ t ((w2.alloc (.cells #[.string m1, .string m2, .int .i64 m3, .slice m4 m5 m6] 25)).alloc (.cells #[.string x1, .string x2, .int .i64 x3, .slice x4 x5 x6] 28))) := Lib.hid
    ⟨HBA.out.trans (hb23.mono (by simp)), (hb23.block _ (as_lt HRB.out)).trans HRB.out, Nat.lt_of_lt_of_le (as_lt HRB.out) hb2.size, htu.n, htu.tn, htu.y, htu.ty⟩
  clear htu hb3 hb23 hv2 hx2 hb2 CG HBA HRB
  simp only [Nd.val]
  go_wp2_with fail
  generalize ((w2.alloc (.cells #[.string m1, .string m2, .int .i64 m3, .slice m4 m5 m6] 25)).alloc (.cells #[.string x1, .string x2, .int .i64 x3, .slice x4 x5 x6] 28)) = W3 at *
  generalize w2.heap.size = bm at *
  refine (CG2.out _ HE3.out.bel).mono ?_
  rintro e w4 ⟨⟨n1, n2, n3, n4, n5, n6⟩, ⟨y1, y2, y3, y4, y5, y6⟩, rfl, hv4, hy4, hb4⟩
  have htu := Tu.new w4 ⟨n1, n2, n3, n4, n5, n6⟩ ⟨y1, y2, y3, y4, y5, y6⟩ u (hv4.less (Nat.zero_le _)) (hy4.less (Nat.zero_le _))
  have hb5 : Below w4.heap.size w4 ((w4.alloc (.cells #[.string n1, .string n2, .int .i64 n3, .slice n4 n5 n6] 25)).alloc (.cells #[.string y1, .string y2, .int .i64 y3, .slice y4 y5 y6] 28)) := ((Below.refl _ _).alloc (Nat.le_refl _) _).alloc (by simp) _
  have HE5 := Lib.hid (HE3.out.next (hb4.trans (hb5.mono hb4.size)))
  have HU5 := Lib.hid htu
  clear htu hb5 hv4 hy4 hb4 CG2 HE3
  simp only [Nd.val]
  simp only at HU5
  go_wp2_with fail
  generalize ((w4.alloc (.cells #[.string n1, .string n2, .int .i64 n3, .slice n4 n5 n6] 25)).alloc (.cells #[.string y1, .string y2, .int .i64 y3, .slice y4 y5 y6] 28)) = W5 at *
  generalize w4.heap.size = bn at *
  refine (CU.out _).mono ?_
  rintro e w5 ⟨rfl, rfl⟩
  clear CU
  go_wp2_with fail
  have CS : Hid (∀ W, VT W 0 ⟨m1, m2, m3, m4, m5, m6⟩ t → VT W 0 ⟨n1, n2, n3, n4, n5, n6⟩ u → Calls Tryd.prog 13 #[.agg #[.string m1, .string m2, .int .i64 m3, .slice m4 m5 m6], .agg #[.string n1, .string n2, .int .i64 n3, .slice n4 n5 n6]] W fun e w' => e = .returned (.bool (sameT t u)) ∧ Below W.heap.size W w') := Lib.hid fun W h1 h2 => same_of ⟨m1, m2, m3, m4, m5, m6⟩ ⟨n1, n2, n3, n4, n5, n6⟩ t u 0 0 W h1 h2 (by omega)
  have CR : Hid (∀ W, VT W 0 ⟨x1, x2, x3, x4, x5, x6⟩ t → VT W 0 ⟨y1, y2, y3, y4, y5, y6⟩ u → Calls Tryd.prog 14 #[.agg #[.string x1, .string x2, .int .i64 x3, .slice x4 x5 x6], .agg #[.string y1, .string y2, .int .i64 y3, .slice y4 y5 y6]] W fun e w' => e = .returned (.bool (sameT t u)) ∧ Below W.heap.size W w') := Lib.hid fun W h1 h2 => rsame_of ⟨x1, x2, x3, x4, x5, x6⟩ ⟨y1, y2, y3, y4, y5, y6⟩ t u 0 0 W h1 h2 (by omega)
  have CP : Hid (∀ W, Below w.heap.size w W → VT W 0 ⟨m1, m2, m3, m4, m5, m6⟩ t → Calls Tryd.prog 11 #[.agg #[.string m1, .string m2, .int .i64 m3, .slice m4 m5 m6]] W fun e w' => e = .returned (.string ⟨(printL t).toArray⟩) ∧ Below W.heap.size W w') := Lib.hid fun W hb hv => Print_any ⟨m1, m2, m3, m4, m5, m6⟩ t 0 W hv (by have := HTP.out; omega) (as_tab HT.out hb hb.size)
  have CQ : Hid (∀ W, VT W 0 ⟨x1, x2, x3, x4, x5, x6⟩ t → Calls Tryd.prog 12 #[.agg #[.string x1, .string x2, .int .i64 x3, .slice x4 x5 x6]] W fun e w' => e = .returned (.string ⟨(printL t).toArray⟩) ∧ Below W.heap.size W w') := Lib.hid fun W hv => rprint_of ⟨x1, x2, x3, x4, x5, x6⟩ t 0 W hv HTP.out
  generalize (⟨(printL t).toArray⟩ : ByteArray) = pa at *
  generalize sameT t u = sb at *
  have HEd := Lib.hid (HE5.out.next (drew_below W5))
  have HUd := Lib.hid (HU5.out.next (drew_below W5))
  refine wp_mono (Q := NoP _) ?_ (fun e a w h => h.2)
  refine wp_region_held_drew (S := fun w' => Te w bm ⟨m1, m2, m3, m4, m5, m6⟩ ⟨x1, x2, x3, x4, x5, x6⟩ t w' ∧ Tu bn ⟨n1, n2, n3, n4, n5, n6⟩ ⟨y1, y2, y3, y4, y5, y6⟩ u w') (by kernel_rfl) (⟨HEd.out, HUd.out⟩) (fun hHeld => ?_)
  refine wpAnyH_ready (rs := [0]) (by kernel_rfl) (by simp) ?_
  refine AllReadyH.cons (o := _) rfl (fun K hK => ?_) AllReadyH.nil
  go_simp
  refine (awake_any _ (as_tab HT.out HEd.out.bel HEd.out.bel.size)).mono ?_
  rintro e w8 ⟨rfl, hb8⟩
  have HEa := Lib.hid (HEd.out.next hb8)
  have HUa := Lib.hid (HUd.out.next hb8)
  clear hb8
  refine hK.out _ _ (⟨HEa.out, HUa.out⟩) (fun hHeld => ?_)
  clear hK K
  try simp only [List.getElem_toArray, List.getElem_cons_zero, List.getElem_cons_succ, Act.put, List.setIfInBounds_toArray, List.set_cons_zero, List.set_cons_succ]
  refine wpAnyH_take (i := 1) (oi := _) (v := ?_) rfl (by kernel_rfl) (by kernel_rfl) (by kernel_rfl) (fun c _ _ h => absurd rfl (h.1 c)) (Or.inl ⟨by rfl, ?_⟩) (by assumption) ?_
  rotate_left
  · (intro w hSw; obtain ⟨p0, p1⟩ := hSw; obtain ⟨a0, a1, a2, a3⟩ := p0.m; obtain ⟨b0, b1, b2, b3⟩ := p0.x; obtain ⟨c0, c1, c2, c3⟩ := p1.n; obtain ⟨d0, d1, d2, d3⟩ := p1.y; simp only [Nat.zero_add] at a0 a1 a2 a3 b0 b1 b2 b3 c0 c1 c2 c3 d0 d1 d2 d3; clear p0 p1; go_simp; try with_reducible rfl)
  try simp only [List.getElem_toArray, List.getElem_cons_zero, List.getElem_cons_succ, Act.put, List.setIfInBounds_toArray, List.set_cons_zero, List.set_cons_succ]
  refine wpAnyH_take (i := 2) (oi := _) (v := ?_) rfl (by kernel_rfl) (by kernel_rfl) (by kernel_rfl) (fun c _ _ h => absurd rfl (h.1 c)) (Or.inl ⟨by rfl, ?_⟩) (by assumption) ?_
  rotate_left
  · (intro w hSw; obtain ⟨p0, p1⟩ := hSw; obtain ⟨a0, a1, a2, a3⟩ := p0.m; obtain ⟨b0, b1, b2, b3⟩ := p0.x; obtain ⟨c0, c1, c2, c3⟩ := p1.n; obtain ⟨d0, d1, d2, d3⟩ := p1.y; simp only [Nat.zero_add] at a0 a1 a2 a3 b0 b1 b2 b3 c0 c1 c2 c3 d0 d1 d2 d3; clear p0 p1; go_simp; try with_reducible rfl)
  try simp only [List.getElem_toArray, List.getElem_cons_zero, List.getElem_cons_succ, Act.put, List.setIfInBounds_toArray, List.set_cons_zero, List.set_cons_succ]
  refine wpAnyH_take (i := 3) (oi := _) (v := ?_) rfl (by kernel_rfl) (by kernel_rfl) (by kernel_rfl) (fun c _ _ h => absurd rfl (h.1 c)) (Or.inl ⟨by rfl, ?_⟩) (by assumption) ?_
  rotate_left
  · (intro w hSw; obtain ⟨p0, p1⟩ := hSw; obtain ⟨a0, a1, a2, a3⟩ := p0.m; obtain ⟨b0, b1, b2, b3⟩ := p0.x; obtain ⟨c0, c1, c2, c3⟩ := p1.n; obtain ⟨d0, d1, d2, d3⟩ := p1.y; simp only [Nat.zero_add] at a0 a1 a2 a3 b0 b1 b2 b3 c0 c1 c2 c3 d0 d1 d2 d3; clear p0 p1; go_simp; try with_reducible rfl)
  try simp only [List.getElem_toArray, List.getElem_cons_zero, List.getElem_cons_succ, Act.put, List.setIfInBounds_toArray, List.set_cons_zero, List.set_cons_succ]
  refine wpAnyH_take (i := 5) (oi := _) (v := ?_) rfl (by kernel_rfl) (by kernel_rfl) (by kernel_rfl) (fun c _ _ h => absurd rfl (h.1 c)) (Or.inl ⟨by rfl, ?_⟩) (by assumption) ?_
  rotate_left
  · (intro w hSw; obtain ⟨p0, p1⟩ := hSw; obtain ⟨a0, a1, a2, a3⟩ := p0.m; obtain ⟨b0, b1, b2, b3⟩ := p0.x; obtain ⟨c0, c1, c2, c3⟩ := p1.n; obtain ⟨d0, d1, d2, d3⟩ := p1.y; simp only [Nat.zero_add] at a0 a1 a2 a3 b0 b1 b2 b3 c0 c1 c2 c3 d0 d1 d2 d3; clear p0 p1; go_simp; try with_reducible rfl)
  try simp only [List.getElem_toArray, List.getElem_cons_zero, List.getElem_cons_succ, Act.put, List.setIfInBounds_toArray, List.set_cons_zero, List.set_cons_succ]
  refine wpAnyH_ready (rs := [4]) (by kernel_rfl) (by simp) ?_
  refine AllReadyH.cons (o := _) rfl (fun K hK => ?_) AllReadyH.nil
  go_simp
  refine (CP.out _ HEa.out.bel HEa.out.tm).mono ?_
  rintro e w8 ⟨rfl, hb8⟩
  have HEb := Lib.hid (HEa.out.next hb8)
  have HUb := Lib.hid (HUa.out.next hb8)
  clear hb8
  refine hK.out _ _ (⟨HEb.out, HUb.out⟩) (fun hHeld => ?_)
  clear hK K
  try simp only [List.getElem_toArray, List.getElem_cons_zero, List.getElem_cons_succ, Act.put, List.setIfInBounds_toArray, List.set_cons_zero, List.set_cons_succ]
  refine wpAnyH_ready (rs := [6]) (by kernel_rfl) (by simp) ?_
  refine AllReadyH.cons (o := _) rfl (fun K hK => ?_) AllReadyH.nil
  go_simp
  refine (CQ.out _ HEb.out.tx).mono ?_
  rintro e w8 ⟨rfl, hb8⟩
  have HEc := Lib.hid (HEb.out.next hb8)
  have HUc := Lib.hid (HUb.out.next hb8)
  clear hb8
  refine hK.out _ _ (⟨HEc.out, HUc.out⟩) (fun hHeld => ?_)
  clear hK K
  try simp only [List.getElem_toArray, List.getElem_cons_zero, List.getElem_cons_succ, Act.put, List.setIfInBounds_toArray, List.set_cons_zero, List.set_cons_succ]
  refine wpAnyH_take (i := 7) (oi := _) (v := ?_) rfl (by kernel_rfl) (by kernel_rfl) (by kernel_rfl) (fun c _ _ h => absurd rfl (h.1 c)) (Or.inl ⟨by rfl, ?_⟩) (by assumption) ?_
  rotate_left
  · (intro w hSw; obtain ⟨p0, p1⟩ := hSw; obtain ⟨a0, a1, a2, a3⟩ := p0.m; obtain ⟨b0, b1, b2, b3⟩ := p0.x; obtain ⟨c0, c1, c2, c3⟩ := p1.n; obtain ⟨d0, d1, d2, d3⟩ := p1.y; simp only [Nat.zero_add] at a0 a1 a2 a3 b0 b1 b2 b3 c0 c1 c2 c3 d0 d1 d2 d3; clear p0 p1; go_simp; try with_reducible rfl)
  try simp only [List.getElem_toArray, List.getElem_cons_zero, List.getElem_cons_succ, Act.put, List.setIfInBounds_toArray, List.set_cons_zero, List.set_cons_succ]
  refine wpAnyH_take (i := 8) (oi := _) (v := ?_) rfl (by kernel_rfl) (by kernel_rfl) (by kernel_rfl) (fun c _ _ h => absurd rfl (h.1 c)) (Or.inl ⟨by rfl, ?_⟩) (by assumption) ?_
  rotate_left
  · (intro w hSw; obtain ⟨p0, p1⟩ := hSw; obtain ⟨a0, a1, a2, a3⟩ := p0.m; obtain ⟨b0, b1, b2, b3⟩ := p0.x; obtain ⟨c0, c1, c2, c3⟩ := p1.n; obtain ⟨d0, d1, d2, d3⟩ := p1.y; simp only [Nat.zero_add] at a0 a1 a2 a3 b0 b1 b2 b3 c0 c1 c2 c3 d0 d1 d2 d3; clear p0 p1; go_simp; try with_reducible rfl)
  try simp only [List.getElem_toArray, List.getElem_cons_zero, List.getElem_cons_succ, Act.put, List.setIfInBounds_toArray, List.set_cons_zero, List.set_cons_succ]
  refine wpAnyH_take (i := 9) (oi := _) (v := ?_) rfl (by kernel_rfl) (by kernel_rfl) (by kernel_rfl) (fun c _ _ h => absurd rfl (h.1 c)) (Or.inl ⟨by rfl, ?_⟩) (by assumption) ?_
  rotate_left
  · (intro w hSw; obtain ⟨p0, p1⟩ := hSw; obtain ⟨a0, a1, a2, a3⟩ := p0.m; obtain ⟨b0, b1, b2, b3⟩ := p0.x; obtain ⟨c0, c1, c2, c3⟩ := p1.n; obtain ⟨d0, d1, d2, d3⟩ := p1.y; simp only [Nat.zero_add] at a0 a1 a2 a3 b0 b1 b2 b3 c0 c1 c2 c3 d0 d1 d2 d3; clear p0 p1; go_simp; try with_reducible rfl)
  try simp only [List.getElem_toArray, List.getElem_cons_zero, List.getElem_cons_succ, Act.put, List.setIfInBounds_toArray, List.set_cons_zero, List.set_cons_succ]
  refine wpAnyH_take (i := 10) (oi := _) (v := ?_) rfl (by kernel_rfl) (by kernel_rfl) (by kernel_rfl) (fun c _ _ h => absurd rfl (h.1 c)) (Or.inl ⟨by rfl, ?_⟩) (by assumption) ?_
  rotate_left
  · (intro w hSw; obtain ⟨p0, p1⟩ := hSw; obtain ⟨a0, a1, a2, a3⟩ := p0.m; obtain ⟨b0, b1, b2, b3⟩ := p0.x; obtain ⟨c0, c1, c2, c3⟩ := p1.n; obtain ⟨d0, d1, d2, d3⟩ := p1.y; simp only [Nat.zero_add] at a0 a1 a2 a3 b0 b1 b2 b3 c0 c1 c2 c3 d0 d1 d2 d3; clear p0 p1; go_simp; try with_reducible rfl)
  try simp only [List.getElem_toArray, List.getElem_cons_zero, List.getElem_cons_succ, Act.put, List.setIfInBounds_toArray, List.set_cons_zero, List.set_cons_succ]
  refine wpAnyH_take (i := 11) (oi := _) (v := ?_) rfl (by kernel_rfl) (by kernel_rfl) (by kernel_rfl) (fun c _ _ h => absurd rfl (h.1 c)) (Or.inl ⟨by rfl, ?_⟩) (by assumption) ?_
  rotate_left
  · (intro w hSw; obtain ⟨p0, p1⟩ := hSw; obtain ⟨a0, a1, a2, a3⟩ := p0.m; obtain ⟨b0, b1, b2, b3⟩ := p0.x; obtain ⟨c0, c1, c2, c3⟩ := p1.n; obtain ⟨d0, d1, d2, d3⟩ := p1.y; simp only [Nat.zero_add] at a0 a1 a2 a3 b0 b1 b2 b3 c0 c1 c2 c3 d0 d1 d2 d3; clear p0 p1; go_simp; try with_reducible rfl)
  try simp only [List.getElem_toArray, List.getElem_cons_zero, List.getElem_cons_succ, Act.put, List.setIfInBounds_toArray, List.set_cons_zero, List.set_cons_succ]
  refine wpAnyH_take (i := 13) (oi := _) (v := ?_) rfl (by kernel_rfl) (by kernel_rfl) (by kernel_rfl) (fun c _ _ h => absurd rfl (h.1 c)) (Or.inl ⟨by rfl, ?_⟩) (by assumption) ?_
  rotate_left
  · (intro w hSw; obtain ⟨p0, p1⟩ := hSw; obtain ⟨a0, a1, a2, a3⟩ := p0.m; obtain ⟨b0, b1, b2, b3⟩ := p0.x; obtain ⟨c0, c1, c2, c3⟩ := p1.n; obtain ⟨d0, d1, d2, d3⟩ := p1.y; simp only [Nat.zero_add] at a0 a1 a2 a3 b0 b1 b2 b3 c0 c1 c2 c3 d0 d1 d2 d3; clear p0 p1; go_simp; try with_reducible rfl)
  try simp only [List.getElem_toArray, List.getElem_cons_zero, List.getElem_cons_succ, Act.put, List.setIfInBounds_toArray, List.set_cons_zero, List.set_cons_succ]
  refine wpAnyH_take (i := 14) (oi := _) (v := ?_) rfl (by kernel_rfl) (by kernel_rfl) (by kernel_rfl) (fun c _ _ h => absurd rfl (h.1 c)) (Or.inl ⟨by rfl, ?_⟩) (by assumption) ?_
  rotate_left
  · (intro w hSw; obtain ⟨p0, p1⟩ := hSw; obtain ⟨a0, a1, a2, a3⟩ := p0.m; obtain ⟨b0, b1, b2, b3⟩ := p0.x; obtain ⟨c0, c1, c2, c3⟩ := p1.n; obtain ⟨d0, d1, d2, d3⟩ := p1.y; simp only [Nat.zero_add] at a0 a1 a2 a3 b0 b1 b2 b3 c0 c1 c2 c3 d0 d1 d2 d3; clear p0 p1; go_simp; try with_reducible rfl)
  try simp only [List.getElem_toArray, List.getElem_cons_zero, List.getElem_cons_succ, Act.put, List.setIfInBounds_toArray, List.set_cons_zero, List.set_cons_succ]
  refine wpAnyH_ready (rs := [12]) (by kernel_rfl) (by simp) ?_
  refine AllReadyH.cons (o := _) rfl (fun K hK => ?_) AllReadyH.nil
  go_simp
  refine (CS.out _ HEc.out.tm HUc.out.tn).mono ?_
  rintro e w8 ⟨rfl, hb8⟩
  have HEe := Lib.hid (HEc.out.next hb8)
  have HUe := Lib.hid (HUc.out.next hb8)
  clear hb8
  refine hK.out _ _ (⟨HEe.out, HUe.out⟩) (fun hHeld => ?_)
  clear hK K
  try simp only [List.getElem_toArray, List.getElem_cons_zero, List.getElem_cons_succ, Act.put, List.setIfInBounds_toArray, List.set_cons_zero, List.set_cons_succ]
  refine wpAnyH_ready (rs := [15]) (by kernel_rfl) (by simp) ?_
  refine AllReadyH.cons (o := _) rfl (fun K hK => ?_) AllReadyH.nil
  go_simp
  refine (CR.out _ HEe.out.tx HUe.out.ty).mono ?_
  rintro e w8 ⟨rfl, hb8⟩
  have HEf := Lib.hid (HEe.out.next hb8)
  have HUf := Lib.hid (HUe.out.next hb8)
  clear hb8
  refine hK.out _ _ (⟨HEf.out, HUf.out⟩) (fun hHeld => ?_)
  clear hK K
  try simp only [List.getElem_toArray, List.getElem_cons_zero, List.getElem_cons_succ, Act.put, List.setIfInBounds_toArray, List.set_cons_zero, List.set_cons_succ]
  refine wpAnyH_take (i := 16) (oi := _) (v := ?_) rfl (by kernel_rfl) (by kernel_rfl) (by kernel_rfl) (fun c _ _ h => absurd rfl (h.1 c)) (Or.inl ⟨by rfl, ?_⟩) (by assumption) ?_
  rotate_left
  · (intro w hSw; obtain ⟨p0, p1⟩ := hSw; obtain ⟨a0, a1, a2, a3⟩ := p0.m; obtain ⟨b0, b1, b2, b3⟩ := p0.x; obtain ⟨c0, c1, c2, c3⟩ := p1.n; obtain ⟨d0, d1, d2, d3⟩ := p1.y; simp only [Nat.zero_add] at a0 a1 a2 a3 b0 b1 b2 b3 c0 c1 c2 c3 d0 d1 d2 d3; clear p0 p1; go_simp; try with_reducible rfl)
  try simp only [List.getElem_toArray, List.getElem_cons_zero, List.getElem_cons_succ, Act.put, List.setIfInBounds_toArray, List.set_cons_zero, List.set_cons_succ]
  refine wpAnyH_take (i := 17) (oi := _) (v := ?_) rfl (by kernel_rfl) (by kernel_rfl) (by kernel_rfl) (fun c _ _ h => absurd rfl (h.1 c)) (Or.inl ⟨by rfl, ?_⟩) (by assumption) ?_
  rotate_left
  · (intro w hSw; obtain ⟨p0, p1⟩ := hSw; obtain ⟨a0, a1, a2, a3⟩ := p0.m; obtain ⟨b0, b1, b2, b3⟩ := p0.x; obtain ⟨c0, c1, c2, c3⟩ := p1.n; obtain ⟨d0, d1, d2, d3⟩ := p1.y; simp only [Nat.zero_add] at a0 a1 a2 a3 b0 b1 b2 b3 c0 c1 c2 c3 d0 d1 d2 d3; clear p0 p1; go_simp; try with_reducible rfl)
  try simp only [List.getElem_toArray, List.getElem_cons_zero, List.getElem_cons_succ, Act.put, List.setIfInBounds_toArray, List.set_cons_zero, List.set_cons_succ]
  refine wpAnyH_done (by kernel_rfl) ?_ _
  refine ⟨by simp, ?_⟩
  clear hHeld HEd HUd HEa HUa HEb HUb HEc HUc HEe HUe HUf HU5 HE5 CS CR CP CQ
  generalize w8 = W6 at *
  obtain ⟨a0, a1, a2, a3⟩ := HEf.out.m
  obtain ⟨b0, b1, b2, b3⟩ := HEf.out.x
  simp only [Nat.zero_add] at a0 a1 a2 a3 b0 b1 b2 b3
  go_wp2_with fail
  have CA := Lib.hid (rall_of ⟨x1, x2, x3, x4, x5, x6⟩ t 0 W6 HEf.out.tx (by omega))
  simp only [Nd.val] at CA
  refine CA.out.mono ?_
  rintro e w7 ⟨g, c, fs, rfl, hfa, hg7, hb7⟩
  have hfl : fs.length = t.size := by rw [hfa.len, flatTT_len]
  have HE7 := Lib.hid (HEf.out.next hb7)
  have hgl7 : g < w7.heap.size := by
    have hp := size_pos' t
    exact World.block_lt_of_cell? _ _ (hfa.row 0 (by omega)).1
  have HFLn := Lib.hid hfl
  clear hfl
  have HF7 := Lib.hid hfa
  have hb9 : Below w7.heap.size w7 (((w7.alloc (.cells #[.slice (some ⟨g, 0, none⟩) fs.length c] 37)).alloc (.cells #[.int .i64 0] 3)).alloc (.cells #[.int .i64 0] 3)) := (((Below.refl _ _).alloc (Nat.le_refl _) _).alloc (by simp) _).alloc (by simp; omega) _
  have hz9 : (((w7.alloc (.cells #[.slice (some ⟨g, 0, none⟩) fs.length c] 37)).alloc (.cells #[.int .i64 0] 3)).alloc (.cells #[.int .i64 0] 3)).heap.size = w7.heap.size + 3 := by simp
  have o13 : (((w7.alloc (.cells #[.slice (some ⟨g, 0, none⟩) fs.length c] 37)).alloc (.cells #[.int .i64 0] 3)).alloc (.cells #[.int .i64 0] 3)).heap[w7.heap.size]? = some (.cells #[.slice (some ⟨g, 0, none⟩) fs.length c] 37 (0, 0)) := (Below.heap_alloc _ _ _ (by simp; omega)).trans ((Below.heap_alloc _ _ _ (by simp)).trans (as_heap_alloc w7 _))
  have i14 : IC (((w7.alloc (.cells #[.slice (some ⟨g, 0, none⟩) fs.length c] 37)).alloc (.cells #[.int .i64 0] 3)).alloc (.cells #[.int .i64 0] 3)) (w7.heap.size + 1) 0 := by
    have h := IC.new (w7.alloc (.cells #[.slice (some ⟨g, 0, none⟩) fs.length c] 37)) 0
    rw [World.size_alloc] at h
    exact h.kept (Below.heap_alloc _ _ _ (by simp))
  have i15 : IC (((w7.alloc (.cells #[.slice (some ⟨g, 0, none⟩) fs.length c] 37)).alloc (.cells #[.int .i64 0] 3)).alloc (.cells #[.int .i64 0] 3)) (w7.heap.size + 2) 0 := by
    have h := IC.new ((w7.alloc (.cells #[.slice (some ⟨g, 0, none⟩) fs.length c] 37)).alloc (.cells #[.int .i64 0] 3)) 0
    rw [World.size_alloc, World.size_alloc] at h
    exact h
  have HE9 := HE7.out.next hb9
  have CB := Lib.hid (all_call ⟨m1, m2, m3, m4, m5, m6⟩ t 0 _ HE9.tm (by omega) HTX.out)
  simp only [Nd.val] at CB
  have hbm7 := HE7.out.m.lt
  clear a0 a1 a2 a3 b0 b1 b2 b3 hfa hb7 CA HEf
  obtain ⟨a0, a1, a2, a3⟩ := HE9.m
  simp only [Nat.zero_add] at a0 a1 a2 a3
  have HB9 := Lib.hid hb9
  have HO := Lib.hid (And.intro o13 (And.intro i14 i15))
  have HZ9 := Lib.hid hz9
  clear hb9 o13 i14 i15 HE9 hz9
  go_upto_region 8 with fail
  simp only [Nat.add_assoc, Nat.reduceAdd]
  generalize (((w7.alloc (.cells #[.slice (some ⟨g, 0, none⟩) fs.length c] 37)).alloc (.cells #[.int .i64 0] 3)).alloc (.cells #[.int .i64 0] 3)) = W9 at *
  go_wp2_with fail
  refine CB.out.mono ?_
  rintro e wA ⟨bh, k2, rfl, hbh, hnh, hvh, hbA⟩
  clear a0 a1 a2 a3 CB
  have hzA := hbA.size
  have oA := (hbA.block _ (as_lt HO.out.1)).trans HO.out.1
  have iA := HO.out.2.1.next hbA
  have dA := HO.out.2.2.next hbA
  have HBA7 : Hid (Below w7.heap.size w7 wA) := Lib.hid (HB9.out.trans (hbA.mono (by have := HZ9.out; omega)))
  rw [HZ9.out] at hbh hvh hzA
  have hbhA := hnh.lt
  clear hbA HO HB9 HZ9
  dsimp only
  go_wp2_with fail
  refine (wpIn_wide (n := 6)).1 ?_
  refine with_act (fun aa haa => ?_)
  refine wpIn_rangeD (F := Fence.wide) rfl (by omega) (gf := 27) (lb := #[.pointer (some ⟨bh, 0, none⟩)]) (by rw [haa]; rfl) trivial (enters_of Tryd.func27 (by kernel_rfl) rfl)
    (all_seqD hnh hvh (by omega) HTX.out _ (by omega)) (fun x W W' h hb => h.next hb) (fun x W r ob h hl => h.put (fun cs e fz he => by rw [hl] at he; cases he) ob) (Below.refl _ _) (fun _ => rfl) (fun k => k = w7.heap.size + 1 ∨ k = w7.heap.size + 2) (fun k hk hc => by rcases hk with h | h <;> rcases hc with h2 | h2 <;> omega) (fun k hk => by rcases hk with h | h <;> omega) (fun k hc => by rcases hc with h2 | h2 <;> omega)
    (TeI (w7.heap.size + 1) (w7.heap.size + 2)) (fun _ _ _ _ => False) ?hI (fun _ _ _ _ _ h _ => h) ⟨rfl, iA, dA⟩ (fun x a' W => ∃ bx, a' = { tmps := (((aa.tmps.setIfInBounds 56 (.int .i64 (x.1 : Int))).setIfInBounds 57 x.2.1.val).setIfInBounds 16 (.int .i64 (x.1 : Int))).setIfInBounds 17 (.pointer (some ⟨bx, 0, none⟩)), defers := [] } ∧ At4 W bx x.2.1) ?hA ?assign ?body ?done ?stop
  case hI =>
    rintro pre C A B ⟨rfl, h1, h3⟩ hs
    exact ⟨rfl, h1.kept (hs.block _ (.inl rfl)), h3.kept (hs.block _ (.inr rfl))⟩
  case hA =>
    rintro x a' W r ob ⟨bx, ha, hbx⟩ hlr
    exact ⟨bx, ha, (World.putObj_heap_other (fun e => by subst e; unfold At4 at hbx; rw [hlr] at hbx; cases hbx)).trans hbx⟩
  case stop => rintro D cd pre C W _ h; exact h.elim
  case assign =>
    rintro l' ⟨xd, ⟨z1, z2, z3, z4, z5, z6⟩, xt⟩ W K hK
    subst haa
    obtain ⟨bx, hbx⟩ : ∃ bx, bx = W.heap.size := ⟨_, rfl⟩
    simp only [encY2, Nd.val]
    gi_wp2_with fail
    rw [← hbx]
    refine hK _ _ ((Below.refl _ _).alloc (Nat.le_refl _) _) ⟨bx, ?_, ?_⟩
    · rfl
    · rw [hbx]; exact as_heap_alloc _ _
  case body =>
    rintro l' pre ⟨xd, ⟨z1, z2, z3, z4, z5, z6⟩, xt⟩ C a' W ⟨rfl, hic, hid⟩ ⟨bx, rfl, hbx⟩ hDx hcz hcm hf hlen hsp
    subst haa
    have hbW : Below w7.heap.size w7 W := HBA7.out.trans (hcm.below (by omega) (fun k hk => by rcases hk with rfl | rfl <;> omega))
    have HEW := Lib.hid (HE7.out.next hbW)
    have hFW := HF7.out.next hbW
    have hkl : pre.length < t.size := by
      have := hsp.length_le
      rw [flatTT_len, List.length_map, List.length_append, List.length_singleton] at this
      omega
    have hkf : pre.length < fs.length := by rw [HFLn.out]; exact hkl
    have hk2 : pre.length < (flatTT 0 t).length := by rw [flatTT_len]; exact hkl
    have hel : (flatTT 0 t)[pre.length] = (xd, xt) := by
      obtain ⟨r, hr⟩ := hsp
      have h2 : (flatTT 0 t)[pre.length]? = some (xd, xt) := by rw [← hr]; simp [keyY2]
      rw [List.getElem?_eq_getElem hk2] at h2
      exact Option.some.inj h2
    obtain ⟨hd1, hv1⟩ := hFW.tr pre.length hkf hk2
    rw [hel] at hd1 hv1
    obtain ⟨hr0, hrn⟩ := hFW.row pre.length hkf
    obtain ⟨hp1, hp2, hp3⟩ := HPL.out (xd, xt) (by rw [← hel]; exact List.getElem_mem hk2)
    simp only at hd1 hv1 hDx hp1 hp2 hp3
    obtain ⟨u1, u2, hz3⟩ := hDx.root
    obtain ⟨u3, u4, hf3⟩ := hv1.root
    clear u1 u2 u3 u4
    obtain ⟨⟨f1, f2, f3, f4, f5, f6⟩, hfn⟩ : ∃ n, n = fs[pre.length].n := ⟨_, rfl⟩
    rw [← hfn] at hrn hv1 hf3
    rw [hd1] at hr0
    simp only at hz3 hf3
    obtain rfl : z3 = f3 := hz3.trans hf3.symm
    have CPx : Hid (∀ V, Below W.heap.size W V → Calls Tryd.prog 11 #[.agg #[.string z1, .string z2, .int .i64 z3, .slice z4 z5 z6]] V fun e w' => e = .returned (.string ⟨(printL xt).toArray⟩) ∧ Below V.heap.size V w') := Lib.hid fun V hV => Print_any ⟨z1, z2, z3, z4, z5, z6⟩ xt 0 V (hDx.next hV) (by omega) (as_tab HT.out (HEW.out.next hV).bel (HEW.out.next hV).bel.size)
    have CQx : Hid (∀ V, Below W.heap.size W V → Calls Tryd.prog 12 #[.agg #[.string f1, .string f2, .int .i64 z3, .slice f4 f5 f6]] V fun e w' => e = .returned (.string ⟨(printL xt).toArray⟩) ∧ Below V.heap.size V w') := Lib.hid fun V hV => rprint_of ⟨f1, f2, z3, f4, f5, f6⟩ xt 0 V (hv1.next hV) hp1
    generalize (⟨(printL xt).toArray⟩ : ByteArray) = px at *
    have o13 : W.cell? ⟨w7.heap.size, 0, none⟩ = some (.slice (some ⟨g, 0, none⟩) fs.length c) := (hcm.cell (a := ⟨w7.heap.size, 0, none⟩) (as_lt oA) (by show ¬ (w7.heap.size = _ ∨ w7.heap.size = _); omega)).trans (as_cell oA)
    have hnb : NodeAt W bx 0 ⟨z1, z2, z3, z4, z5, z6⟩ := ⟨as_cell hbx, as_cell hbx, as_cell hbx, as_cell hbx⟩
    have HSK : Hid (∀ V, Below W.heap.size W V → V.cell? ⟨w7.heap.size, 0, none⟩ = some (.slice (some ⟨g, 0, none⟩) fs.length c) ∧ V.cell? ⟨w7.heap.size + 1, 0, none⟩ = some (.int .i64 (pre.length : Int)) ∧ NodeAt V bx 0 ⟨z1, z2, z3, z4, z5, z6⟩ ∧ V.cell? ⟨g, pre.length * 5, none⟩ = some (.int .i64 (xd : Int)) ∧ NodeAt V g (pre.length * 5 + 1) ⟨f1, f2, z3, f4, f5, f6⟩) := Lib.hid fun V hV =>
      ⟨(hV.cell (p := ⟨w7.heap.size, 0, none⟩) (World.block_lt_of_cell? _ _ o13)).trans o13, (hic.next hV).c, hnb.kept (hV.block _ hnb.lt), (hV.cell (p := ⟨g, pre.length * 5, none⟩) (World.block_lt_of_cell? _ _ hr0)).trans hr0, hrn.kept (hV.block _ hrn.lt)⟩
    have HIC : Hid (∀ V, Below W.heap.size W V → IC V (w7.heap.size + 1) (pre.length : Int) ∧ IC V (w7.heap.size + 2) (deepD (pre.map keyY2) : Int)) := Lib.hid fun V hV => ⟨hic.next hV, hid.next hV⟩
    have hlw := hid.lt
    have HFIN : Hid (∀ V (a : Act), Below W.heap.size W V → ownPostC (TeI (w7.heap.size + 1) (w7.heap.size + 2)) (fun _ _ _ _ => False) (fun k => k = w7.heap.size + 1 ∨ k = w7.heap.size + 2) (pre ++ [(xd, ⟨z1, z2, z3, z4, z5, z6⟩, xt)]) W .normal a ((V.setCell ⟨w7.heap.size + 2, 0, none⟩ (.int .i64 (max (deepD (pre.map keyY2) : Int) (xd : Int)))).setCell ⟨w7.heap.size + 1, 0, none⟩ (.int .i64 ((pre.length : Int) + 1)))) := Lib.hid fun V a hV => by
      refine ⟨_, fun k hk => Or.inl hk, fun k hk => by rw [World.size_setCell, World.size_setCell]; have := hV.size; rcases hk with rfl | rfl <;> omega, ⟨hV.os, hV.tape, hV.output, by rw [World.size_setCell, World.size_setCell]; exact hV.size, fun k hk hn => ?_⟩, ⟨rfl, ?_, ?_⟩⟩
      · exact (Below.heap_setCell _ ⟨w7.heap.size + 1, 0, none⟩ _ k (fun e => hn (Or.inl e))).trans ((Below.heap_setCell _ ⟨w7.heap.size + 2, 0, none⟩ _ k (fun e => hn (Or.inr e))).trans (hV.block k hk))
      · have h := ((hic.next hV).kept (Below.heap_setCell V ⟨w7.heap.size + 2, 0, none⟩ (.int .i64 (max (deepD (pre.map keyY2) : Int) (xd : Int))) (w7.heap.size + 1) (by show w7.heap.size + 1 ≠ w7.heap.size + 2; omega))).set ((pre.length : Int) + 1)
        rw [List.length_append, List.length_singleton]
        exact h
      · have h := ((hid.next hV).set (max (deepD (pre.map keyY2) : Int) (xd : Int))).kept (Below.heap_setCell _ ⟨w7.heap.size + 1, 0, none⟩ (.int .i64 ((pre.length : Int) + 1)) (w7.heap.size + 2) (by show w7.heap.size + 2 ≠ w7.heap.size + 1; omega))
        have e : ((deepD ((pre ++ [((xd, ⟨z1, z2, z3, z4, z5, z6⟩, xt) : Nat × Nd × T)]).map keyY2) : Nat) : Int) = max (deepD (pre.map keyY2) : Int) (xd : Int) := by
          rw [List.map_append, deepD_append]
          simp only [List.map_cons, List.map_nil, deepD, keyY2]
          omega
        rw [e]
        exact h
    have hxd : xd ≤ 1000000 := by
      have h1 := flatTT_le (flatTT 0 t) (xd, xt) (by rw [← hel]; exact List.getElem_mem hk2)
      have h2 := depth_flat t
      have h3 := depth_size t
      simp only at h1
      omega
    have hdp : deepD (pre.map keyY2) ≤ 1000000 := by
      have h1 := deepD_pre (List.IsPrefix.trans (List.IsPrefix.map keyY2 (List.prefix_append pre _)) hsp)
      have h2 := depth_flat t
      have h3 := depth_size t
      omega
    have hki : (pre.length : Int) < (fs.length : Int) := by omega
    have hki2 : ¬ (fs.length : Int) ≤ (pre.length : Int) := by omega
    have hki3 : ¬ fs.length ≤ pre.length := by omega
    have hki4 : pre.length < fs.length := by omega
    have hkl2 : pre.length ≤ 1000 := by omega
    clear hic hid hbx hDx hcz hcm hf hlen hsp hbW hFW hkl hkf hk2 hel hd1 hv1 hr0 hrn hp1 hp2 hp3 hz3 hf3 hfn o13 hnb
    generalize deepD (pre.map keyY2) = dd at *
    generalize hKK : pre.length = kk at *
    clear hKK
    generalize fs.length = nn at *
    simp only [Nd.val, List.setIfInBounds_toArray, List.set_cons_zero, List.set_cons_succ]
    gi_wp2_with fail
    refine wpIn_region_I (S := fun V => V.cell? ⟨w7.heap.size, 0, none⟩ = some (.slice (some ⟨g, 0, none⟩) nn c) ∧ V.cell? ⟨w7.heap.size + 1, 0, none⟩ = some (.int .i64 (kk : Int)) ∧ NodeAt V bx 0 ⟨z1, z2, z3, z4, z5, z6⟩ ∧ V.cell? ⟨g, kk * 5, none⟩ = some (.int .i64 (xd : Int)) ∧ NodeAt V g (kk * 5 + 1) ⟨f1, f2, z3, f4, f5, f6⟩) (by kernel_rfl) (HSK.out _ (drew_below W)) (fun hHeld => ?_)
    refine wpAnyI_take (i := 0) (oi := _) (v := ?_) (by kernel_rfl) rfl (by kernel_rfl) (by kernel_rfl) (by kernel_rfl) (fun _ _ _ h => h) (Or.inl ⟨by rfl, ?_⟩) (fun _ => rfl) (by assumption) ?_
    rotate_left
    · (intro w hSw; obtain ⟨q0, q1, ⟨e0, e1, e2, e3⟩, q2, g0, g1, g2, g3⟩ := hSw; simp only [Nat.zero_add] at e0 e1 e2 e3; simp only at g0 g1 g2 g3; have g1' := g1; have g2' := g2; have g3' := g3; simp only [Nat.add_assoc, Nat.reduceAdd] at g1' g2' g3'; go_simp; try with_reducible rfl)
    try simp only [List.getElem_toArray, List.getElem_cons_zero, Act.put, List.setIfInBounds_toArray, List.set_cons_zero, List.set_cons_succ]
    refine wpAnyI_take (i := 1) (oi := _) (v := ?_) (by kernel_rfl) rfl (by kernel_rfl) (by kernel_rfl) (by kernel_rfl) (fun _ _ _ h => h) (Or.inl ⟨by rfl, ?_⟩) (fun _ => rfl) (by assumption) ?_
    rotate_left
    · (intro w hSw; obtain ⟨q0, q1, ⟨e0, e1, e2, e3⟩, q2, g0, g1, g2, g3⟩ := hSw; simp only [Nat.zero_add] at e0 e1 e2 e3; simp only at g0 g1 g2 g3; have g1' := g1; have g2' := g2; have g3' := g3; simp only [Nat.add_assoc, Nat.reduceAdd] at g1' g2' g3'; go_simp; try with_reducible rfl)
    try simp only [List.getElem_toArray, List.getElem_cons_zero, List.getElem_cons_succ, Act.put, List.setIfInBounds_toArray, List.set_cons_zero, List.set_cons_succ]
    refine wpAnyI_take (i := 2) (oi := _) (v := ?_) (by kernel_rfl) rfl (by kernel_rfl) (by kernel_rfl) (by kernel_rfl) (fun _ _ _ h => h) (Or.inl ⟨by rfl, ?_⟩) (fun _ => rfl) (by assumption) ?_
    rotate_left
    · (intro w hSw; obtain ⟨q0, q1, ⟨e0, e1, e2, e3⟩, q2, g0, g1, g2, g3⟩ := hSw; simp only [Nat.zero_add] at e0 e1 e2 e3; simp only at g0 g1 g2 g3; have g1' := g1; have g2' := g2; have g3' := g3; simp only [Nat.add_assoc, Nat.reduceAdd] at g1' g2' g3'; go_simp; try with_reducible rfl)
    try simp only [List.getElem_toArray, List.getElem_cons_zero, List.getElem_cons_succ, Act.put, List.setIfInBounds_toArray, List.set_cons_zero, List.set_cons_succ]
    refine wpAnyI_take (i := 3) (oi := _) (v := ?_) (by kernel_rfl) rfl (by kernel_rfl) (by kernel_rfl) (by kernel_rfl) (fun _ _ _ h => h) (Or.inl ⟨by rfl, ?_⟩) (fun _ => rfl) (by assumption) ?_
    rotate_left
    · (intro w hSw; obtain ⟨q0, q1, ⟨e0, e1, e2, e3⟩, q2, g0, g1, g2, g3⟩ := hSw; simp only [Nat.zero_add] at e0 e1 e2 e3; simp only at g0 g1 g2 g3; have g1' := g1; have g2' := g2; have g3' := g3; simp only [Nat.add_assoc, Nat.reduceAdd] at g1' g2' g3'; go_simp; try with_reducible rfl)
    try simp only [List.getElem_toArray, List.getElem_cons_zero, List.getElem_cons_succ, Act.put, List.setIfInBounds_toArray, List.set_cons_zero, List.set_cons_succ]
    refine wpAnyI_take (i := 4) (oi := _) (v := ?_) (by kernel_rfl) rfl (by kernel_rfl) (by kernel_rfl) (by kernel_rfl) (fun _ _ _ h => h) (Or.inl ⟨by rfl, ?_⟩) (fun _ => rfl) (by assumption) ?_
    rotate_left
    · (intro w hSw; obtain ⟨q0, q1, ⟨e0, e1, e2, e3⟩, q2, g0, g1, g2, g3⟩ := hSw; simp only [Nat.zero_add] at e0 e1 e2 e3; simp only at g0 g1 g2 g3; have g1' := g1; have g2' := g2; have g3' := g3; simp only [Nat.add_assoc, Nat.reduceAdd] at g1' g2' g3'; go_simp; try with_reducible rfl)
    try simp only [List.getElem_toArray, List.getElem_cons_zero, List.getElem_cons_succ, Act.put, List.setIfInBounds_toArray, List.set_cons_zero, List.set_cons_succ]
    refine wpAnyI_take (i := 5) (oi := _) (v := ?_) (by kernel_rfl) rfl (by kernel_rfl) (by kernel_rfl) (by kernel_rfl) (fun _ _ _ h => h) (Or.inl ⟨by rfl, ?_⟩) (fun _ => rfl) (by assumption) ?_
    rotate_left
    · (intro w hSw; obtain ⟨q0, q1, ⟨e0, e1, e2, e3⟩, q2, g0, g1, g2, g3⟩ := hSw; simp only [Nat.zero_add] at e0 e1 e2 e3; simp only at g0 g1 g2 g3; have g1' := g1; have g2' := g2; have g3' := g3; simp only [Nat.add_assoc, Nat.reduceAdd] at g1' g2' g3'; go_simp; try with_reducible rfl)
    try simp only [List.getElem_toArray, List.getElem_cons_zero, List.getElem_cons_succ, Act.put, List.setIfInBounds_toArray, List.set_cons_zero, List.set_cons_succ]
    refine wpAnyI_take (i := 6) (oi := _) (v := ?_) (by kernel_rfl) rfl (by kernel_rfl) (by kernel_rfl) (by kernel_rfl) (fun _ _ _ h => h) (Or.inl ⟨by rfl, ?_⟩) (fun _ => rfl) (by assumption) ?_
    rotate_left
    · (intro w hSw; obtain ⟨q0, q1, ⟨e0, e1, e2, e3⟩, q2, g0, g1, g2, g3⟩ := hSw; simp only [Nat.zero_add] at e0 e1 e2 e3; simp only at g0 g1 g2 g3; have g1' := g1; have g2' := g2; have g3' := g3; simp only [Nat.add_assoc, Nat.reduceAdd] at g1' g2' g3'; go_simp; try with_reducible rfl)
    try simp only [List.getElem_toArray, List.getElem_cons_zero, List.getElem_cons_succ, Act.put, List.setIfInBounds_toArray, List.set_cons_zero, List.set_cons_succ]
    refine wpAnyI_take (i := 7) (oi := _) (v := ?_) (by kernel_rfl) rfl (by kernel_rfl) (by kernel_rfl) (by kernel_rfl) (fun _ _ _ h => h) (Or.inl ⟨by rfl, ?_⟩) (fun _ => rfl) (by assumption) ?_
    rotate_left
    · (intro w hSw; obtain ⟨q0, q1, ⟨e0, e1, e2, e3⟩, q2, g0, g1, g2, g3⟩ := hSw; simp only [Nat.zero_add] at e0 e1 e2 e3; simp only at g0 g1 g2 g3; have g1' := g1; have g2' := g2; have g3' := g3; simp only [Nat.add_assoc, Nat.reduceAdd] at g1' g2' g3'; go_simp; try with_reducible rfl)
    try simp only [List.getElem_toArray, List.getElem_cons_zero, List.getElem_cons_succ, Act.put, List.setIfInBounds_toArray, List.set_cons_zero, List.set_cons_succ]
    refine wpAnyI_take (i := 8) (oi := _) (v := ?_) (by kernel_rfl) rfl (by kernel_rfl) (by kernel_rfl) (by kernel_rfl) (fun _ _ _ h => h) (Or.inl ⟨by rfl, ?_⟩) (fun _ => rfl) (by assumption) ?_
    rotate_left
    · (intro w hSw; obtain ⟨q0, q1, ⟨e0, e1, e2, e3⟩, q2, g0, g1, g2, g3⟩ := hSw; simp only [Nat.zero_add] at e0 e1 e2 e3; simp only at g0 g1 g2 g3; have g1' := g1; have g2' := g2; have g3' := g3; simp only [Nat.add_assoc, Nat.reduceAdd] at g1' g2' g3'; go_simp; try with_reducible rfl)
    try simp only [List.getElem_toArray, List.getElem_cons_zero, List.getElem_cons_succ, Act.put, List.setIfInBounds_toArray, List.set_cons_zero, List.set_cons_succ]
    refine wpAnyI_take (i := 9) (oi := _) (v := ?_) (by kernel_rfl) rfl (by kernel_rfl) (by kernel_rfl) (by kernel_rfl) (fun _ _ _ h => h) (Or.inl ⟨by rfl, ?_⟩) (fun _ => rfl) (by assumption) ?_
    rotate_left
    · (intro w hSw; obtain ⟨q0, q1, ⟨e0, e1, e2, e3⟩, q2, g0, g1, g2, g3⟩ := hSw; simp only [Nat.zero_add] at e0 e1 e2 e3; simp only at g0 g1 g2 g3; have g1' := g1; have g2' := g2; have g3' := g3; simp only [Nat.add_assoc, Nat.reduceAdd] at g1' g2' g3'; go_simp; try with_reducible rfl)
    try simp only [List.getElem_toArray, List.getElem_cons_zero, List.getElem_cons_succ, Act.put, List.setIfInBounds_toArray, List.set_cons_zero, List.set_cons_succ]
    refine wpAnyI_take (i := 10) (oi := _) (v := ?_) (by kernel_rfl) rfl (by kernel_rfl) (by kernel_rfl) (by kernel_rfl) (fun _ _ _ h => h) (Or.inl ⟨by rfl, ?_⟩) (fun _ => rfl) (by assumption) ?_
    rotate_left
    · (intro w hSw; obtain ⟨q0, q1, ⟨e0, e1, e2, e3⟩, q2, g0, g1, g2, g3⟩ := hSw; simp only [Nat.zero_add] at e0 e1 e2 e3; simp only at g0 g1 g2 g3; have g1' := g1; have g2' := g2; have g3' := g3; simp only [Nat.add_assoc, Nat.reduceAdd] at g1' g2' g3'; go_simp; try with_reducible rfl)
    try simp only [List.getElem_toArray, List.getElem_cons_zero, List.getElem_cons_succ, Act.put, List.setIfInBounds_toArray, List.set_cons_zero, List.set_cons_succ]
    refine wpAnyI_take (i := 11) (oi := _) (v := ?_) (by kernel_rfl) rfl (by kernel_rfl) (by kernel_rfl) (by kernel_rfl) (fun _ _ _ h => h) (Or.inl ⟨by rfl, ?_⟩) (fun _ => rfl) (by assumption) ?_
    rotate_left
    · (intro w hSw; obtain ⟨q0, q1, ⟨e0, e1, e2, e3⟩, q2, g0, g1, g2, g3⟩ := hSw; simp only [Nat.zero_add] at e0 e1 e2 e3; simp only at g0 g1 g2 g3; have g1' := g1; have g2' := g2; have g3' := g3; simp only [Nat.add_assoc, Nat.reduceAdd] at g1' g2' g3'; go_simp; try with_reducible rfl)
    try simp only [List.getElem_toArray, List.getElem_cons_zero, List.getElem_cons_succ, Act.put, List.setIfInBounds_toArray, List.set_cons_zero, List.set_cons_succ]
    refine wpAnyI_take (i := 12) (oi := _) (v := ?_) (by kernel_rfl) rfl (by kernel_rfl) (by kernel_rfl) (by kernel_rfl) (fun _ _ _ h => h) (Or.inl ⟨by rfl, ?_⟩) (fun _ => rfl) (by assumption) ?_
    rotate_left
    · (intro w hSw; obtain ⟨q0, q1, ⟨e0, e1, e2, e3⟩, q2, g0, g1, g2, g3⟩ := hSw; simp only [Nat.zero_add] at e0 e1 e2 e3; simp only at g0 g1 g2 g3; have g1' := g1; have g2' := g2; have g3' := g3; simp only [Nat.add_assoc, Nat.reduceAdd] at g1' g2' g3'; go_simp; try with_reducible rfl)
    try simp only [List.getElem_toArray, List.getElem_cons_zero, List.getElem_cons_succ, Act.put, List.setIfInBounds_toArray, List.set_cons_zero, List.set_cons_succ]
    refine wpAnyI_take (i := 13) (oi := _) (v := ?_) (by kernel_rfl) rfl (by kernel_rfl) (by kernel_rfl) (by kernel_rfl) (fun _ _ _ h => h) (Or.inl ⟨by rfl, ?_⟩) (fun _ => rfl) (by assumption) ?_
    rotate_left
    · (intro w hSw; obtain ⟨q0, q1, ⟨e0, e1, e2, e3⟩, q2, g0, g1, g2, g3⟩ := hSw; simp only [Nat.zero_add] at e0 e1 e2 e3; simp only at g0 g1 g2 g3; have g1' := g1; have g2' := g2; have g3' := g3; simp only [Nat.add_assoc, Nat.reduceAdd] at g1' g2' g3'; go_simp; try with_reducible rfl)
    try simp only [List.getElem_toArray, List.getElem_cons_zero, List.getElem_cons_succ, Act.put, List.setIfInBounds_toArray, List.set_cons_zero, List.set_cons_succ]
    refine wpAnyI_take (i := 14) (oi := _) (v := ?_) (by kernel_rfl) rfl (by kernel_rfl) (by kernel_rfl) (by kernel_rfl) (fun _ _ _ h => h) (Or.inl ⟨by rfl, ?_⟩) (fun _ => rfl) (by assumption) ?_
    rotate_left
    · (intro w hSw; obtain ⟨q0, q1, ⟨e0, e1, e2, e3⟩, q2, g0, g1, g2, g3⟩ := hSw; simp only [Nat.zero_add] at e0 e1 e2 e3; simp only at g0 g1 g2 g3; have g1' := g1; have g2' := g2; have g3' := g3; simp only [Nat.add_assoc, Nat.reduceAdd] at g1' g2' g3'; go_simp; try with_reducible rfl)
    try simp only [List.getElem_toArray, List.getElem_cons_zero, List.getElem_cons_succ, Act.put, List.setIfInBounds_toArray, List.set_cons_zero, List.set_cons_succ]
    refine wpAnyI_take (i := 16) (oi := _) (v := ?_) (by kernel_rfl) rfl (by kernel_rfl) (by kernel_rfl) (by kernel_rfl) (fun _ _ _ h => h) (Or.inl ⟨by rfl, ?_⟩) (fun _ => rfl) (by assumption) ?_
    rotate_left
    · (intro w hSw; obtain ⟨q0, q1, ⟨e0, e1, e2, e3⟩, q2, g0, g1, g2, g3⟩ := hSw; simp only [Nat.zero_add] at e0 e1 e2 e3; simp only at g0 g1 g2 g3; have g1' := g1; have g2' := g2; have g3' := g3; simp only [Nat.add_assoc, Nat.reduceAdd] at g1' g2' g3'; go_simp; try with_reducible rfl)
    try simp only [List.getElem_toArray, List.getElem_cons_zero, List.getElem_cons_succ, Act.put, List.setIfInBounds_toArray, List.set_cons_zero, List.set_cons_succ]
    refine wpAnyI_take (i := 17) (oi := _) (v := ?_) (by kernel_rfl) rfl (by kernel_rfl) (by kernel_rfl) (by kernel_rfl) (fun _ _ _ h => h) (Or.inl ⟨by rfl, ?_⟩) (fun _ => rfl) (by assumption) ?_
    rotate_left
    · (intro w hSw; obtain ⟨q0, q1, ⟨e0, e1, e2, e3⟩, q2, g0, g1, g2, g3⟩ := hSw; simp only [Nat.zero_add] at e0 e1 e2 e3; simp only at g0 g1 g2 g3; have g1' := g1; have g2' := g2; have g3' := g3; simp only [Nat.add_assoc, Nat.reduceAdd] at g1' g2' g3'; go_simp; try with_reducible rfl)
    try simp only [List.getElem_toArray, List.getElem_cons_zero, List.getElem_cons_succ, Act.put, List.setIfInBounds_toArray, List.set_cons_zero, List.set_cons_succ]
    refine wpAnyI_take (i := 18) (oi := _) (v := ?_) (by kernel_rfl) rfl (by kernel_rfl) (by kernel_rfl) (by kernel_rfl) (fun _ _ _ h => h) (Or.inl ⟨by rfl, ?_⟩) (fun _ => rfl) (by assumption) ?_
    rotate_left
    · (intro w hSw; obtain ⟨q0, q1, ⟨e0, e1, e2, e3⟩, q2, g0, g1, g2, g3⟩ := hSw; simp only [Nat.zero_add] at e0 e1 e2 e3; simp only at g0 g1 g2 g3; have g1' := g1; have g2' := g2; have g3' := g3; simp only [Nat.add_assoc, Nat.reduceAdd] at g1' g2' g3'; go_simp; try with_reducible rfl)
    try simp only [List.getElem_toArray, List.getElem_cons_zero, List.getElem_cons_succ, Act.put, List.setIfInBounds_toArray, List.set_cons_zero, List.set_cons_succ]
    refine wpAnyI_take (i := 19) (oi := _) (v := ?_) (by kernel_rfl) rfl (by kernel_rfl) (by kernel_rfl) (by kernel_rfl) (fun _ _ _ h => h) (Or.inl ⟨by rfl, ?_⟩) (fun _ => rfl) (by assumption) ?_
    rotate_left
    · (intro w hSw; obtain ⟨q0, q1, ⟨e0, e1, e2, e3⟩, q2, g0, g1, g2, g3⟩ := hSw; simp only [Nat.zero_add] at e0 e1 e2 e3; simp only at g0 g1 g2 g3; have g1' := g1; have g2' := g2; have g3' := g3; simp only [Nat.add_assoc, Nat.reduceAdd] at g1' g2' g3'; go_simp; try with_reducible rfl)
    try simp only [List.getElem_toArray, List.getElem_cons_zero, List.getElem_cons_succ, Act.put, List.setIfInBounds_toArray, List.set_cons_zero, List.set_cons_succ]
    refine wpAnyI_take (i := 20) (oi := _) (v := ?_) (by kernel_rfl) rfl (by kernel_rfl) (by kernel_rfl) (by kernel_rfl) (fun _ _ _ h => h) (Or.inl ⟨by rfl, ?_⟩) (fun _ => rfl) (by assumption) ?_
    rotate_left
    · (intro w hSw; obtain ⟨q0, q1, ⟨e0, e1, e2, e3⟩, q2, g0, g1, g2, g3⟩ := hSw; simp only [Nat.zero_add] at e0 e1 e2 e3; simp only at g0 g1 g2 g3; have g1' := g1; have g2' := g2; have g3' := g3; simp only [Nat.add_assoc, Nat.reduceAdd] at g1' g2' g3'; go_simp; try with_reducible rfl)
    try simp only [List.getElem_toArray, List.getElem_cons_zero, List.getElem_cons_succ, Act.put, List.setIfInBounds_toArray, List.set_cons_zero, List.set_cons_succ]
    refine wpAnyI_ready (rs := [15]) (by kernel_rfl) (by simp) ?_
    refine AllReadyI.cons (o := _) rfl (fun K hK => ?_) AllReadyI.nil
    go_simp
    refine ⟨trivial, (CallsIn.inRound l' (callsIn_wide.2 (CPx.out _ (drew_below W)))).mono ?_⟩
    rintro e w8 ⟨rfl, hb8⟩
    have HV8 := Lib.hid ((drew_below W).trans (hb8.mono ((drew_below W)).size))
    clear hb8
    refine hK.out _ _ (HSK.out _ HV8.out) (fun hHeld => ?_)
    clear hK K
    try simp only [List.getElem_toArray, List.getElem_cons_zero, List.getElem_cons_succ, Act.put, List.setIfInBounds_toArray, List.set_cons_zero, List.set_cons_succ]
    refine wpAnyI_ready (rs := [21]) (by kernel_rfl) (by simp) ?_
    refine AllReadyI.cons (o := _) rfl (fun K hK => ?_) AllReadyI.nil
    go_simp
    refine ⟨trivial, (CallsIn.inRound l' (callsIn_wide.2 (CQx.out _ HV8.out))).mono ?_⟩
    rintro e w8 ⟨rfl, hb8⟩
    have HV9 := Lib.hid (HV8.out.trans (hb8.mono (HV8.out).size))
    clear hb8
    refine hK.out _ _ (HSK.out _ HV9.out) (fun hHeld => ?_)
    clear hK K
    try simp only [List.getElem_toArray, List.getElem_cons_zero, List.getElem_cons_succ, Act.put, List.setIfInBounds_toArray, List.set_cons_zero, List.set_cons_succ]
    refine wpAnyI_take (i := 22) (oi := _) (v := ?_) (by kernel_rfl) rfl (by kernel_rfl) (by kernel_rfl) (by kernel_rfl) (fun _ _ _ h => h) (Or.inl ⟨by rfl, ?_⟩) (fun _ => rfl) (by assumption) ?_
    rotate_left
    · (intro w hSw; obtain ⟨q0, q1, ⟨e0, e1, e2, e3⟩, q2, g0, g1, g2, g3⟩ := hSw; simp only [Nat.zero_add] at e0 e1 e2 e3; simp only at g0 g1 g2 g3; have g1' := g1; have g2' := g2; have g3' := g3; simp only [Nat.add_assoc, Nat.reduceAdd] at g1' g2' g3'; go_simp; try with_reducible rfl)
    try simp only [List.getElem_toArray, List.getElem_cons_zero, List.getElem_cons_succ, Act.put, List.setIfInBounds_toArray, List.set_cons_zero, List.set_cons_succ]
    refine wpAnyI_take (i := 23) (oi := _) (v := ?_) (by kernel_rfl) rfl (by kernel_rfl) (by kernel_rfl) (by kernel_rfl) (fun _ _ _ h => h) (Or.inl ⟨by rfl, ?_⟩) (fun _ => rfl) (by assumption) ?_
    rotate_left
    · (intro w hSw; obtain ⟨q0, q1, ⟨e0, e1, e2, e3⟩, q2, g0, g1, g2, g3⟩ := hSw; simp only [Nat.zero_add] at e0 e1 e2 e3; simp only at g0 g1 g2 g3; have g1' := g1; have g2' := g2; have g3' := g3; simp only [Nat.add_assoc, Nat.reduceAdd] at g1' g2' g3'; go_simp; try with_reducible rfl)
    try simp only [List.getElem_toArray, List.getElem_cons_zero, List.getElem_cons_succ, Act.put, List.setIfInBounds_toArray, List.set_cons_zero, List.set_cons_succ]
    refine wpAnyI_take (i := 24) (oi := _) (v := ?_) (by kernel_rfl) rfl (by kernel_rfl) (by kernel_rfl) (by kernel_rfl) (fun _ _ _ h => h) (Or.inl ⟨by rfl, ?_⟩) (fun _ => rfl) (by assumption) ?_
    rotate_left
    · (intro w hSw; obtain ⟨q0, q1, ⟨e0, e1, e2, e3⟩, q2, g0, g1, g2, g3⟩ := hSw; simp only [Nat.zero_add] at e0 e1 e2 e3; simp only at g0 g1 g2 g3; have g1' := g1; have g2' := g2; have g3' := g3; simp only [Nat.add_assoc, Nat.reduceAdd] at g1' g2' g3'; go_simp; try with_reducible rfl)
    try simp only [List.getElem_toArray, List.getElem_cons_zero, List.getElem_cons_succ, Act.put, List.setIfInBounds_toArray, List.set_cons_zero, List.set_cons_succ]
    refine wpAnyI_take (i := 25) (oi := _) (v := ?_) (by kernel_rfl) rfl (by kernel_rfl) (by kernel_rfl) (by kernel_rfl) (fun _ _ _ h => h) (Or.inl ⟨by rfl, ?_⟩) (fun _ => rfl) (by assumption) ?_
    rotate_left
    · (intro w hSw; obtain ⟨q0, q1, ⟨e0, e1, e2, e3⟩, q2, g0, g1, g2, g3⟩ := hSw; simp only [Nat.zero_add] at e0 e1 e2 e3; simp only at g0 g1 g2 g3; have g1' := g1; have g2' := g2; have g3' := g3; simp only [Nat.add_assoc, Nat.reduceAdd] at g1' g2' g3'; go_simp; try with_reducible rfl)
    try simp only [List.getElem_toArray, List.getElem_cons_zero, List.getElem_cons_succ, Act.put, List.setIfInBounds_toArray, List.set_cons_zero, List.set_cons_succ]
    refine wpAnyI_take (i := 26) (oi := _) (v := ?_) (by kernel_rfl) rfl (by kernel_rfl) (by kernel_rfl) (by kernel_rfl) (fun _ _ _ h => h) (Or.inl ⟨by rfl, ?_⟩) (fun _ => rfl) (by assumption) ?_
    rotate_left
    · (intro w hSw; obtain ⟨q0, q1, ⟨e0, e1, e2, e3⟩, q2, g0, g1, g2, g3⟩ := hSw; simp only [Nat.zero_add] at e0 e1 e2 e3; simp only at g0 g1 g2 g3; have g1' := g1; have g2' := g2; have g3' := g3; simp only [Nat.add_assoc, Nat.reduceAdd] at g1' g2' g3'; go_simp; try with_reducible rfl)
    try simp only [List.getElem_toArray, List.getElem_cons_zero, List.getElem_cons_succ, Act.put, List.setIfInBounds_toArray, List.set_cons_zero, List.set_cons_succ]
    refine wpAnyI_take (i := 27) (oi := _) (v := ?_) (by kernel_rfl) rfl (by kernel_rfl) (by kernel_rfl) (by kernel_rfl) (fun _ _ _ h => h) (Or.inl ⟨by rfl, ?_⟩) (fun _ => rfl) (by assumption) ?_
    rotate_left
    · (intro w hSw; obtain ⟨q0, q1, ⟨e0, e1, e2, e3⟩, q2, g0, g1, g2, g3⟩ := hSw; simp only [Nat.zero_add] at e0 e1 e2 e3; simp only at g0 g1 g2 g3; have g1' := g1; have g2' := g2; have g3' := g3; simp only [Nat.add_assoc, Nat.reduceAdd] at g1' g2' g3'; go_simp; try with_reducible rfl)
    try simp only [List.getElem_toArray, List.getElem_cons_zero, List.getElem_cons_succ, Act.put, List.setIfInBounds_toArray, List.set_cons_zero, List.set_cons_succ]
    refine wpAnyI_take (i := 28) (oi := _) (v := ?_) (by kernel_rfl) rfl (by kernel_rfl) (by kernel_rfl) (by kernel_rfl) (fun _ _ _ h => h) (Or.inl ⟨by rfl, ?_⟩) (fun _ => rfl) (by assumption) ?_
    rotate_left
    · (intro w hSw; obtain ⟨q0, q1, ⟨e0, e1, e2, e3⟩, q2, g0, g1, g2, g3⟩ := hSw; simp only [Nat.zero_add] at e0 e1 e2 e3; simp only at g0 g1 g2 g3; have g1' := g1; have g2' := g2; have g3' := g3; simp only [Nat.add_assoc, Nat.reduceAdd] at g1' g2' g3'; go_simp; try with_reducible rfl)
    try simp only [List.getElem_toArray, List.getElem_cons_zero, List.getElem_cons_succ, Act.put, List.setIfInBounds_toArray, List.set_cons_zero, List.set_cons_succ]
    refine wpAnyI_take (i := 29) (oi := _) (v := ?_) (by kernel_rfl) rfl (by kernel_rfl) (by kernel_rfl) (by kernel_rfl) (fun _ _ _ h => h) (Or.inl ⟨by rfl, ?_⟩) (fun _ => rfl) (by assumption) ?_
    rotate_left
    · (intro w hSw; obtain ⟨q0, q1, ⟨e0, e1, e2, e3⟩, q2, g0, g1, g2, g3⟩ := hSw; simp only [Nat.zero_add] at e0 e1 e2 e3; simp only at g0 g1 g2 g3; have g1' := g1; have g2' := g2; have g3' := g3; simp only [Nat.add_assoc, Nat.reduceAdd] at g1' g2' g3'; go_simp; try with_reducible rfl)
    try simp only [List.getElem_toArray, List.getElem_cons_zero, List.getElem_cons_succ, Act.put, List.setIfInBounds_toArray, List.set_cons_zero, List.set_cons_succ]
    refine wpAnyI_take (i := 30) (oi := _) (v := ?_) (by kernel_rfl) rfl (by kernel_rfl) (by kernel_rfl) (by kernel_rfl) (fun _ _ _ h => h) (Or.inl ⟨by rfl, ?_⟩) (fun _ => rfl) (by assumption) ?_
    rotate_left
    · (intro w hSw; obtain ⟨q0, q1, ⟨e0, e1, e2, e3⟩, q2, g0, g1, g2, g3⟩ := hSw; simp only [Nat.zero_add] at e0 e1 e2 e3; simp only at g0 g1 g2 g3; have g1' := g1; have g2' := g2; have g3' := g3; simp only [Nat.add_assoc, Nat.reduceAdd] at g1' g2' g3'; go_simp; try with_reducible rfl)
    try simp only [List.getElem_toArray, List.getElem_cons_zero, List.getElem_cons_succ, Act.put, List.setIfInBounds_toArray, List.set_cons_zero, List.set_cons_succ]
    refine wpAnyI_take (i := 31) (oi := _) (v := ?_) (by kernel_rfl) rfl (by kernel_rfl) (by kernel_rfl) (by kernel_rfl) (fun _ _ _ h => h) (Or.inl ⟨by rfl, ?_⟩) (fun _ => rfl) (by assumption) ?_
    rotate_left
    · (intro w hSw; obtain ⟨q0, q1, ⟨e0, e1, e2, e3⟩, q2, g0, g1, g2, g3⟩ := hSw; simp only [Nat.zero_add] at e0 e1 e2 e3; simp only at g0 g1 g2 g3; have g1' := g1; have g2' := g2; have g3' := g3; simp only [Nat.add_assoc, Nat.reduceAdd] at g1' g2' g3'; go_simp; try with_reducible rfl)
    try simp only [List.getElem_toArray, List.getElem_cons_zero, List.getElem_cons_succ, Act.put, List.setIfInBounds_toArray, List.set_cons_zero, List.set_cons_succ]
    refine wpAnyI_take (i := 32) (oi := _) (v := ?_) (by kernel_rfl) rfl (by kernel_rfl) (by kernel_rfl) (by kernel_rfl) (fun _ _ _ h => h) (Or.inl ⟨by rfl, ?_⟩) (fun _ => rfl) (by assumption) ?_
    rotate_left
    · (intro w hSw; obtain ⟨q0, q1, ⟨e0, e1, e2, e3⟩, q2, g0, g1, g2, g3⟩ := hSw; simp only [Nat.zero_add] at e0 e1 e2 e3; simp only at g0 g1 g2 g3; have g1' := g1; have g2' := g2; have g3' := g3; simp only [Nat.add_assoc, Nat.reduceAdd] at g1' g2' g3'; go_simp; try with_reducible rfl)
    try simp only [List.getElem_toArray, List.getElem_cons_zero, List.getElem_cons_succ, Act.put, List.setIfInBounds_toArray, List.set_cons_zero, List.set_cons_succ]
    refine wpAnyI_take (i := 33) (oi := _) (v := ?_) (by kernel_rfl) rfl (by kernel_rfl) (by kernel_rfl) (by kernel_rfl) (fun _ _ _ h => h) (Or.inl ⟨by rfl, ?_⟩) (fun _ => rfl) (by assumption) ?_
    rotate_left
    · (intro w hSw; obtain ⟨q0, q1, ⟨e0, e1, e2, e3⟩, q2, g0, g1, g2, g3⟩ := hSw; simp only [Nat.zero_add] at e0 e1 e2 e3; simp only at g0 g1 g2 g3; have g1' := g1; have g2' := g2; have g3' := g3; simp only [Nat.add_assoc, Nat.reduceAdd] at g1' g2' g3'; go_simp; try with_reducible rfl)
    try simp only [List.getElem_toArray, List.getElem_cons_zero, List.getElem_cons_succ, Act.put, List.setIfInBounds_toArray, List.set_cons_zero, List.set_cons_succ]
    refine wpAnyI_take (i := 34) (oi := _) (v := ?_) (by kernel_rfl) rfl (by kernel_rfl) (by kernel_rfl) (by kernel_rfl) (fun _ _ _ h => h) (Or.inl ⟨by rfl, ?_⟩) (fun _ => rfl) (by assumption) ?_
    rotate_left
    · (intro w hSw; obtain ⟨q0, q1, ⟨e0, e1, e2, e3⟩, q2, g0, g1, g2, g3⟩ := hSw; simp only [Nat.zero_add] at e0 e1 e2 e3; simp only at g0 g1 g2 g3; have g1' := g1; have g2' := g2; have g3' := g3; simp only [Nat.add_assoc, Nat.reduceAdd] at g1' g2' g3'; go_simp; try with_reducible rfl)
    try simp only [List.getElem_toArray, List.getElem_cons_zero, List.getElem_cons_succ, Act.put, List.setIfInBounds_toArray, List.set_cons_zero, List.set_cons_succ]
    refine wpAnyI_done (by kernel_rfl) ?_ _
    have hD1 := HIC.out _ HV9.out
    have d0 := hD1.2.c
    have d1 := hD1.2.f
    have i0 := hD1.1.c
    have i1 := hD1.1.f
    clear hHeld HSK HIC hD1 CPx CQx HEW
    gi_wp2_with fail
    exact HFIN.out _ _ HV9.out
  case done =>
    rintro D xs C W hS ⟨rfl, hic, hid⟩ hcm hf rfl hD hsz
    subst haa
    have hbW : Below w7.heap.size w7 W := HBA7.out.trans (hcm.below (by omega) (fun k hk => by rcases hk with rfl | rfl <;> omega))
    have HEW := Lib.hid (HE7.out.next hbW)
    have HFW := Lib.hid (HF7.out.next hbW)
    have hxl : xs.length = t.size := by rw [← flatTT_len 0 t, ← hS, List.length_map]
    have hdd : t.depth = deepD (xs.map keyY2) + 1 := by rw [hS]; exact depth_flat t
    rw [hxl] at hic
    generalize deepD (xs.map keyY2) = dd at *
    have hdb : dd ≤ 1000000 := by have := depth_size t; omega
    have hwr : IntKind.i64.wrap ((dd : Int) + 1) = (dd : Int) + 1 := IntWalk.i64_in _ (by omega)
    have o13 : W.cell? ⟨w7.heap.size, 0, none⟩ = some (.slice (some ⟨g, 0, none⟩) t.size c) := by
      rw [← HFLn.out]
      exact (hcm.cell (a := ⟨w7.heap.size, 0, none⟩) (as_lt oA) (by show ¬ (w7.heap.size = _ ∨ w7.heap.size = _); omega)).trans (as_cell oA)
    have HSK : Hid (∀ V, Below W.heap.size W V → Te w bm ⟨m1, m2, m3, m4, m5, m6⟩ ⟨x1, x2, x3, x4, x5, x6⟩ t V ∧ V.cell? ⟨w7.heap.size, 0, none⟩ = some (.slice (some ⟨g, 0, none⟩) t.size c) ∧ V.cell? ⟨w7.heap.size + 1, 0, none⟩ = some (.int .i64 (t.size : Int)) ∧ V.cell? ⟨w7.heap.size + 2, 0, none⟩ = some (.int .i64 (dd : Int))) := Lib.hid fun V hV =>
      ⟨HEW.out.next hV, (hV.cell (p := ⟨w7.heap.size, 0, none⟩) (World.block_lt_of_cell? _ _ o13)).trans o13, (hic.next hV).c, (hid.next hV).c⟩
    have CZ : Hid (∀ V, Below W.heap.size W V → Calls Tryd.prog 17 #[.agg #[.string m1, .string m2, .int .i64 m3, .slice m4 m5 m6]] V fun e w' => e = .returned (.int .i64 (t.size : Int)) ∧ Below V.heap.size V w') := Lib.hid fun V hV => size_of ⟨m1, m2, m3, m4, m5, m6⟩ t 0 V (HSK.out V hV).1.tm (by omega)
    have CD : Hid (∀ V, Below W.heap.size W V → Calls Tryd.prog 18 #[.agg #[.string m1, .string m2, .int .i64 m3, .slice m4 m5 m6]] V fun e w' => e = .returned (.int .i64 ((dd : Int) + 1)) ∧ Below V.heap.size V w') := Lib.hid fun V hV => by
      have h := depth_of ⟨m1, m2, m3, m4, m5, m6⟩ t 0 V (HSK.out V hV).1.tm (by omega)
      rw [hdd] at h
      exact h
    have HDm := Lib.hid hD
    have HDw : Hid (w.heap.size ≤ wA.heap.size) := Lib.hid (by have := HE7.out.bel.size; omega)
    have HDN : Hid (w.heap.size ≠ wA.heap.size) := Lib.hid (by have := as_lt HE7.out.res; omega)
    generalize hDD : wA.heap.size = D at *
    clear hS hic hid hcm hf hD hsz hbW hxl hdd o13 hDD oA iA dA hbh hbhA hnh hvh hzA
    dsimp only
    go_wp2_with fail
    refine wp_mono (Q := NoP _) ?_ (fun e a w h => h.2)
    refine wp_region_held_drew (S := fun V => Te w bm ⟨m1, m2, m3, m4, m5, m6⟩ ⟨x1, x2, x3, x4, x5, x6⟩ t V ∧ V.cell? ⟨w7.heap.size, 0, none⟩ = some (.slice (some ⟨g, 0, none⟩) t.size c) ∧ V.cell? ⟨w7.heap.size + 1, 0, none⟩ = some (.int .i64 (t.size : Int)) ∧ V.cell? ⟨w7.heap.size + 2, 0, none⟩ = some (.int .i64 (dd : Int))) (by kernel_rfl) (HSK.out _ (drew_below W)) (fun hHeld => ?_)
    refine wpAnyH_take (i := 0) (oi := _) (v := ?_) rfl (by kernel_rfl) (by kernel_rfl) (by kernel_rfl) (fun c _ _ h => absurd rfl (h.1 c)) (Or.inl ⟨by rfl, ?_⟩) (by assumption) ?_
    rotate_left
    · (intro w hSw; obtain ⟨p0, q1, q2, q3⟩ := hSw; obtain ⟨a0, a1, a2, a3⟩ := p0.m; simp only [Nat.zero_add] at a0 a1 a2 a3; clear p0; go_simp; try with_reducible rfl)
    try simp only [List.getElem_toArray, List.getElem_cons_zero, Act.put, List.setIfInBounds_toArray, List.set_cons_zero, List.set_cons_succ]
    refine wpAnyH_take (i := 1) (oi := _) (v := ?_) rfl (by kernel_rfl) (by kernel_rfl) (by kernel_rfl) (fun c _ _ h => absurd rfl (h.1 c)) (Or.inl ⟨by rfl, ?_⟩) (by assumption) ?_
    rotate_left
    · (intro w hSw; obtain ⟨p0, q1, q2, q3⟩ := hSw; obtain ⟨a0, a1, a2, a3⟩ := p0.m; simp only [Nat.zero_add] at a0 a1 a2 a3; clear p0; go_simp; try with_reducible rfl)
    try simp only [List.getElem_toArray, List.getElem_cons_zero, List.getElem_cons_succ, Act.put, List.setIfInBounds_toArray, List.set_cons_zero, List.set_cons_succ]
    refine wpAnyH_take (i := 2) (oi := _) (v := ?_) rfl (by kernel_rfl) (by kernel_rfl) (by kernel_rfl) (fun c _ _ h => absurd rfl (h.1 c)) (Or.inl ⟨by rfl, ?_⟩) (by assumption) ?_
    rotate_left
    · (intro w hSw; obtain ⟨p0, q1, q2, q3⟩ := hSw; obtain ⟨a0, a1, a2, a3⟩ := p0.m; simp only [Nat.zero_add] at a0 a1 a2 a3; clear p0; go_simp; try with_reducible rfl)
    try simp only [List.getElem_toArray, List.getElem_cons_zero, List.getElem_cons_succ, Act.put, List.setIfInBounds_toArray, List.set_cons_zero, List.set_cons_succ]
    refine wpAnyH_take (i := 3) (oi := _) (v := ?_) rfl (by kernel_rfl) (by kernel_rfl) (by kernel_rfl) (fun c _ _ h => absurd rfl (h.1 c)) (Or.inl ⟨by rfl, ?_⟩) (by assumption) ?_
    rotate_left
    · (intro w hSw; obtain ⟨p0, q1, q2, q3⟩ := hSw; obtain ⟨a0, a1, a2, a3⟩ := p0.m; simp only [Nat.zero_add] at a0 a1 a2 a3; clear p0; go_simp; try with_reducible rfl)
    try simp only [List.getElem_toArray, List.getElem_cons_zero, List.getElem_cons_succ, Act.put, List.setIfInBounds_toArray, List.set_cons_zero, List.set_cons_succ]
    refine wpAnyH_take (i := 4) (oi := _) (v := ?_) rfl (by kernel_rfl) (by kernel_rfl) (by kernel_rfl) (fun c _ _ h => absurd rfl (h.1 c)) (Or.inl ⟨by rfl, ?_⟩) (by assumption) ?_
    rotate_left
    · (intro w hSw; obtain ⟨p0, q1, q2, q3⟩ := hSw; obtain ⟨a0, a1, a2, a3⟩ := p0.m; simp only [Nat.zero_add] at a0 a1 a2 a3; clear p0; go_simp; try with_reducible rfl)
    try simp only [List.getElem_toArray, List.getElem_cons_zero, List.getElem_cons_succ, Act.put, List.setIfInBounds_toArray, List.set_cons_zero, List.set_cons_succ]
    refine wpAnyH_take (i := 5) (oi := _) (v := ?_) rfl (by kernel_rfl) (by kernel_rfl) (by kernel_rfl) (fun c _ _ h => absurd rfl (h.1 c)) (Or.inl ⟨by rfl, ?_⟩) (by assumption) ?_
    rotate_left
    · (intro w hSw; obtain ⟨p0, q1, q2, q3⟩ := hSw; obtain ⟨a0, a1, a2, a3⟩ := p0.m; simp only [Nat.zero_add] at a0 a1 a2 a3; clear p0; go_simp; try with_reducible rfl)
    try simp only [List.getElem_toArray, List.getElem_cons_zero, List.getElem_cons_succ, Act.put, List.setIfInBounds_toArray, List.set_cons_zero, List.set_cons_succ]
    refine wpAnyH_take (i := 7) (oi := _) (v := ?_) rfl (by kernel_rfl) (by kernel_rfl) (by kernel_rfl) (fun c _ _ h => absurd rfl (h.1 c)) (Or.inl ⟨by rfl, ?_⟩) (by assumption) ?_
    rotate_left
    · (intro w hSw; obtain ⟨p0, q1, q2, q3⟩ := hSw; obtain ⟨a0, a1, a2, a3⟩ := p0.m; simp only [Nat.zero_add] at a0 a1 a2 a3; clear p0; go_simp; try with_reducible rfl)
    try simp only [List.getElem_toArray, List.getElem_cons_zero, List.getElem_cons_succ, Act.put, List.setIfInBounds_toArray, List.set_cons_zero, List.set_cons_succ]
    refine wpAnyH_ready (rs := [6]) (by kernel_rfl) (by simp) ?_
    refine AllReadyH.cons (o := _) rfl (fun K hK => ?_) AllReadyH.nil
    go_simp
    refine (CZ.out _ (drew_below W)).mono ?_
    rintro e w8 ⟨rfl, hb8⟩
    have HVy := Lib.hid (((drew_below W)).trans (hb8.mono ((drew_below W)).size))
    clear hb8
    refine hK.out _ _ (HSK.out _ HVy.out) (fun hHeld => ?_)
    clear hK K
    try simp only [List.getElem_toArray, List.getElem_cons_zero, List.getElem_cons_succ, Act.put, List.setIfInBounds_toArray, List.set_cons_zero, List.set_cons_succ]
    refine wpAnyH_take (i := 8) (oi := _) (v := ?_) rfl (by kernel_rfl) (by kernel_rfl) (by kernel_rfl) (fun c _ _ h => absurd rfl (h.1 c)) (Or.inl ⟨by rfl, ?_⟩) (by assumption) ?_
    rotate_left
    · (intro w hSw; obtain ⟨p0, q1, q2, q3⟩ := hSw; obtain ⟨a0, a1, a2, a3⟩ := p0.m; simp only [Nat.zero_add] at a0 a1 a2 a3; clear p0; go_simp; try with_reducible rfl)
    try simp only [List.getElem_toArray, List.getElem_cons_zero, List.getElem_cons_succ, Act.put, List.setIfInBounds_toArray, List.set_cons_zero, List.set_cons_succ]
    refine wpAnyH_take (i := 9) (oi := _) (v := ?_) rfl (by kernel_rfl) (by kernel_rfl) (by kernel_rfl) (fun c _ _ h => absurd rfl (h.1 c)) (Or.inl ⟨by rfl, ?_⟩) (by assumption) ?_
    rotate_left
    · (intro w hSw; obtain ⟨p0, q1, q2, q3⟩ := hSw; obtain ⟨a0, a1, a2, a3⟩ := p0.m; simp only [Nat.zero_add] at a0 a1 a2 a3; clear p0; go_simp; try with_reducible rfl)
    try simp only [List.getElem_toArray, List.getElem_cons_zero, List.getElem_cons_succ, Act.put, List.setIfInBounds_toArray, List.set_cons_zero, List.set_cons_succ]
    refine wpAnyH_take (i := 10) (oi := _) (v := ?_) rfl (by kernel_rfl) (by kernel_rfl) (by kernel_rfl) (fun c _ _ h => absurd rfl (h.1 c)) (Or.inl ⟨by rfl, ?_⟩) (by assumption) ?_
    rotate_left
    · (intro w hSw; obtain ⟨p0, q1, q2, q3⟩ := hSw; obtain ⟨a0, a1, a2, a3⟩ := p0.m; simp only [Nat.zero_add] at a0 a1 a2 a3; clear p0; go_simp; try with_reducible rfl)
    try simp only [List.getElem_toArray, List.getElem_cons_zero, List.getElem_cons_succ, Act.put, List.setIfInBounds_toArray, List.set_cons_zero, List.set_cons_succ]
    refine wpAnyH_take (i := 11) (oi := _) (v := ?_) rfl (by kernel_rfl) (by kernel_rfl) (by kernel_rfl) (fun c _ _ h => absurd rfl (h.1 c)) (Or.inl ⟨by rfl, ?_⟩) (by assumption) ?_
    rotate_left
    · (intro w hSw; obtain ⟨p0, q1, q2, q3⟩ := hSw; obtain ⟨a0, a1, a2, a3⟩ := p0.m; simp only [Nat.zero_add] at a0 a1 a2 a3; clear p0; go_simp; try with_reducible rfl)
    try simp only [List.getElem_toArray, List.getElem_cons_zero, List.getElem_cons_succ, Act.put, List.setIfInBounds_toArray, List.set_cons_zero, List.set_cons_succ]
    refine wpAnyH_take (i := 13) (oi := _) (v := ?_) rfl (by kernel_rfl) (by kernel_rfl) (by kernel_rfl) (fun c _ _ h => absurd rfl (h.1 c)) (Or.inl ⟨by rfl, ?_⟩) (by assumption) ?_
    rotate_left
    · (intro w hSw; obtain ⟨p0, q1, q2, q3⟩ := hSw; obtain ⟨a0, a1, a2, a3⟩ := p0.m; simp only [Nat.zero_add] at a0 a1 a2 a3; clear p0; go_simp; try with_reducible rfl)
    try simp only [List.getElem_toArray, List.getElem_cons_zero, List.getElem_cons_succ, Act.put, List.setIfInBounds_toArray, List.set_cons_zero, List.set_cons_succ]
    refine wpAnyH_take (i := 14) (oi := _) (v := ?_) rfl (by kernel_rfl) (by kernel_rfl) (by kernel_rfl) (fun c _ _ h => absurd rfl (h.1 c)) (Or.inl ⟨by rfl, ?_⟩) (by assumption) ?_
    rotate_left
    · (intro w hSw; obtain ⟨p0, q1, q2, q3⟩ := hSw; obtain ⟨a0, a1, a2, a3⟩ := p0.m; simp only [Nat.zero_add] at a0 a1 a2 a3; clear p0; go_simp; try with_reducible rfl)
    try simp only [List.getElem_toArray, List.getElem_cons_zero, List.getElem_cons_succ, Act.put, List.setIfInBounds_toArray, List.set_cons_zero, List.set_cons_succ]
    refine wpAnyH_ready (rs := [12]) (by kernel_rfl) (by simp) ?_
    refine AllReadyH.cons (o := _) rfl (fun K hK => ?_) AllReadyH.nil
    go_simp
    refine (CD.out _ HVy.out).mono ?_
    rintro e w8 ⟨rfl, hb8⟩
    have HVz := Lib.hid ((HVy.out).trans (hb8.mono (HVy.out).size))
    clear hb8
    refine hK.out _ _ (HSK.out _ HVz.out) (fun hHeld => ?_)
    clear hK K
    try simp only [List.getElem_toArray, List.getElem_cons_zero, List.getElem_cons_succ, Act.put, List.setIfInBounds_toArray, List.set_cons_zero, List.set_cons_succ]
    refine wpAnyH_take (i := 15) (oi := _) (v := ?_) rfl (by kernel_rfl) (by kernel_rfl) (by kernel_rfl) (fun c _ _ h => absurd rfl (h.1 c)) (Or.inl ⟨by rfl, ?_⟩) (by assumption) ?_
    rotate_left
    · (intro w hSw; obtain ⟨p0, q1, q2, q3⟩ := hSw; obtain ⟨a0, a1, a2, a3⟩ := p0.m; simp only [Nat.zero_add] at a0 a1 a2 a3; clear p0; go_simp; try with_reducible rfl)
    try simp only [List.getElem_toArray, List.getElem_cons_zero, List.getElem_cons_succ, Act.put, List.setIfInBounds_toArray, List.set_cons_zero, List.set_cons_succ]
    refine wpAnyH_take (i := 16) (oi := _) (v := ?_) rfl (by kernel_rfl) (by kernel_rfl) (by kernel_rfl) (fun c _ _ h => absurd rfl (h.1 c)) (Or.inl ⟨by rfl, ?_⟩) (by assumption) ?_
    rotate_left
    · (intro w hSw; obtain ⟨p0, q1, q2, q3⟩ := hSw; obtain ⟨a0, a1, a2, a3⟩ := p0.m; simp only [Nat.zero_add] at a0 a1 a2 a3; clear p0; go_simp; try with_reducible rfl)
    try simp only [List.getElem_toArray, List.getElem_cons_zero, List.getElem_cons_succ, Act.put, List.setIfInBounds_toArray, List.set_cons_zero, List.set_cons_succ]
    refine wpAnyH_done (by kernel_rfl) ?_ _
    refine ⟨by simp, ?_⟩
    have hs := HSK.out _ HVz.out
    have HEZ := Lib.hid hs.1
    have HOZ := Lib.hid hs.2.1
    have HFZ := Lib.hid (HFW.out.next HVz.out)
    have HDZ := Lib.hid (mark_kept HDm.out HVz.out)
    clear hHeld hs HSK CZ CD HVy HVz HDm HFW HEW
    generalize w8 = V1 at *
    have hba : Below V1.heap.size V1 (V1.alloc (.cells #[.string op2, .string ⟨#[110, 111, 110, 101, 32, 115, 117, 99, 104]⟩] 9)) := (Below.refl _ _).alloc (Nat.le_refl _) _
    have CF := Lib.hid (first_any ⟨m1, m2, m3, m4, m5, m6⟩ t 0 _ V1.heap.size 2 op2 ⟨#[110, 111, 110, 101, 32, 115, 117, 99, 104]⟩ (HEZ.out.next hba).tm (by omega) HTX.out (show (V1.alloc (.cells #[.string op2, .string ⟨#[110, 111, 110, 101, 32, 115, 117, 99, 104]⟩] 9)).cell? ⟨V1.heap.size, 0, none⟩ = some (.string op2) by simp [go_sem]) (show (V1.alloc (.cells #[.string op2, .string ⟨#[110, 111, 110, 101, 32, 115, 117, 99, 104]⟩] 9)).cell? ⟨V1.heap.size, 1, none⟩ = some (.string ⟨#[110, 111, 110, 101, 32, 115, 117, 99, 104]⟩) by simp [go_sem]))
    have HBa := Lib.hid hba
    simp only [Nd.val] at CF
    obtain ⟨a0, a1, a2, a3⟩ := HEZ.out.m
    simp only [Nat.zero_add] at a0 a1 a2 a3
    clear hba
    go_wp2_with fail
    refine CF.out.mono ?_
    rintro e wF ⟨⟨k1, k2, k3, k4, k5, k6⟩, b, rfl, hbF, hcs⟩
    have hbk : Below wF.heap.size wF (wF.alloc (.cells #[.string k1, .string k2, .int .i64 k3, .slice k4 k5 k6] 25)) := (Below.refl _ _).alloc (Nat.le_refl _) _
    have hb11 : Below V1.heap.size V1 (wF.alloc (.cells #[.string k1, .string k2, .int .i64 k3, .slice k4 k5 k6] 25)) := HBa.out.trans ((hbF.trans (hbk.mono hbF.size)).mono HBa.out.size)
    have HE11 := Lib.hid (HEZ.out.next hb11)
    have HF11 := Lib.hid (HFZ.out.next hb11)
    have HD11 := Lib.hid (mark_kept HDZ.out hb11)
    have HO11 : Hid ((wF.alloc (.cells #[.string k1, .string k2, .int .i64 k3, .slice k4 k5 k6] 25)).cell? ⟨w7.heap.size, 0, none⟩ = some (.slice (some ⟨g, 0, none⟩) t.size c)) := Lib.hid ((hb11.cell (p := ⟨w7.heap.size, 0, none⟩) (World.block_lt_of_cell? _ _ HOZ.out)).trans HOZ.out)
    have HN11 := Lib.hid (node_new wF ⟨k1, k2, k3, k4, k5, k6⟩)
    have HCS : Hid ((b = true ∧ ∃ pre x post, flatTT 0 t = pre ++ x :: post ∧ (∀ y ∈ pre, mt op2 ⟨#[110, 111, 110, 101, 32, 115, 117, 99, 104]⟩ y.2 = false) ∧ mt op2 ⟨#[110, 111, 110, 101, 32, 115, 117, 99, 104]⟩ x.2 = true ∧ VT (wF.alloc (.cells #[.string k1, .string k2, .int .i64 k3, .slice k4 k5 k6] 25)) 0 ⟨k1, k2, k3, k4, k5, k6⟩ x.2) ∨ (b = false ∧ (⟨k1, k2, k3, k4, k5, k6⟩ : Nd) = nd0 ∧ ∀ y ∈ flatTT 0 t, mt op2 ⟨#[110, 111, 110, 101, 32, 115, 117, 99, 104]⟩ y.2 = false)) := Lib.hid (hcs.imp (fun ⟨h1, p, x, q, h2, h3, h4, h5⟩ => ⟨h1, p, x, q, h2, h3, h4, (h5.less (Nat.zero_le _)).next hbk⟩) id)
    simp only at HN11
    clear a0 a1 a2 a3 hbF hcs hbk hb11 CF HEZ HFZ HDZ HOZ HBa
    simp only [Nd.val]
    go_upto_region 18 with fail
    generalize (wF.alloc (.cells #[.string k1, .string k2, .int .i64 k3, .slice k4 k5 k6] 25)) = W11 at *
    generalize wF.heap.size = bk at *
    have o11 := HO11.out
    go_wp2_with fail
    clear o11
    go_loopw [124] (fun iv wr => ∃ k : Nat, k ≤ t.size ∧ iv = .int .i64 (k : Int) ∧ Hid (∀ (j : Nat) (h : j < (flatTT 0 t).length), j < k → mt op2 ⟨#[110, 111, 110, 101, 32, 115, 117, 99, 104]⟩ (flatTT 0 t)[j].2 = false) ∧ Hid (Below W11.heap.size W11 wr)) (fun iv _ => t.size - (intOf iv).toNat)
    case atStart => exact ⟨0, Nat.zero_le _, by simp, Lib.hid (fun j h h2 => by omega), Lib.hid (Below.refl _ _)⟩
    case round =>
      obtain ⟨k, hk, rfl, HS, HB⟩ := hrel
      by_cases hc : k < t.size
      · have hki : (k : Int) < (t.size : Int) := by omega
        have hkn : ¬ t.size ≤ k := by omega
        have hk2 : k < (flatTT 0 t).length := by rw [flatTT_len]; exact hc
        have hkf : k < fs.length := by rw [HFLn.out]; exact hc
        obtain ⟨hr0, hrn⟩ := HF11.out.row k hkf
        obtain ⟨u1, hv1⟩ := HF11.out.tr k hkf hk2
        clear u1
        obtain ⟨hp1, hp2, hp3⟩ := HPL.out _ (List.getElem_mem hk2)
        obtain ⟨⟨f1, f2, f3, f4, f5, f6⟩, hfn⟩ : ∃ n, n = fs[k].n := ⟨_, rfl⟩
        rw [← hfn] at hrn hv1
        obtain ⟨hop1, u2, hpl1⟩ := hv1.root
        clear u2
        generalize fs[k].d = fd at *
        have hr0w := (HB.out.cell (p := ⟨g, k * 5, none⟩) (World.block_lt_of_cell? _ _ hr0)).trans hr0
        obtain ⟨g1, g2, g3, g4⟩ := hrn.kept (HB.out.block _ hrn.lt)
        have HV1 := Lib.hid hv1
        have hmt : mt op2 ⟨#[110, 111, 110, 101, 32, 115, 117, 99, 104]⟩ (flatTT 0 t)[k].2 = (eqB f1 op2 || eqB f1 ⟨#[110, 111, 110, 101, 32, 115, 117, 99, 104]⟩) := by unfold mt; rw [← hop1]
        have HFA : Hid ((eqB f1 op2 || eqB f1 ⟨#[110, 111, 110, 101, 32, 115, 117, 99, 104]⟩) = true → ∃ y : T, VT W11 0 ⟨k1, k2, k3, k4, k5, k6⟩ y ∧ VT W11 0 ⟨f1, f2, f3, f4, f5, f6⟩ y ∧ b = true ∧ k3 = f3 ∧ y.size ≤ 30) := Lib.hid (fun hm => by
          rw [← hmt] at hm
          rcases HCS.out with ⟨hb, p, x, q, e1, e2, e3, e4⟩ | ⟨_, _, e⟩
          · have hx := first_at e1 e2 e3 hk2 HS.out hm
            rw [hx] at hv1 hp3
            exact ⟨x.2, e4, hv1, hb, e4.root.2.2.trans hv1.root.2.2.symm, hp3⟩
          · have := e _ (List.getElem_mem hk2)
            rw [this] at hm
            cases hm)
        have HNX : Hid ((eqB f1 op2 || eqB f1 ⟨#[110, 111, 110, 101, 32, 115, 117, 99, 104]⟩) = false → ∀ (j : Nat) (h : j < (flatTT 0 t).length), j < k + 1 → mt op2 ⟨#[110, 111, 110, 101, 32, 115, 117, 99, 104]⟩ (flatTT 0 t)[j].2 = false) := Lib.hid (fun hm j h h2 => by
          by_cases e : j = k
          · subst e; rw [hmt]; exact hm
          · exact HS.out j h (by omega))
        have hba : Below wr.heap.size wr (wr.alloc (.cells #[.int .i64 (fd : Int), .string f1, .string f2, .int .i64 f3, .slice f4 f5 f6] 43)) := (Below.refl _ _).alloc (Nat.le_refl _) _
        have HBA := Lib.hid (HB.out.trans (hba.mono HB.out.size))
        have HNF : Hid (NodeAt (wr.alloc (.cells #[.int .i64 (fd : Int), .string f1, .string f2, .int .i64 f3, .slice f4 f5 f6] 43)) wr.heap.size 1 ⟨f1, f2, f3, f4, f5, f6⟩) := Lib.hid ⟨by simp [go_sem], by simp [go_sem], by simp [go_sem], by simp [go_sem]⟩
        clear HV1 hr0 hrn hv1 hp1 hp2 hp3 hfn hop1 hpl1 hmt HS HB hk2 hkf hba
        cases e0 : eqB f1 op2 with
        | true =>
          have h0 : (f1.toList == op2.toList) = true := e0
          obtain ⟨y, hky, hfy, rfl, rfl, hys⟩ := HFA.out (by rw [e0]; rfl)
          clear e0 HFA HNX
          go_wp2_with fail
          generalize (wr.alloc (.cells #[.int .i64 (fd : Int), .string f1, .string f2, .int .i64 k3, .slice f4 f5 f6] 43)) = V2 at *
          generalize wr.heap.size = b21 at *
          have hky2 := hky.next HBA.out
          have hfy2 := hfy.next HBA.out
          have hEf := HE11.out.next HBA.out
          have hN := HN11.out.kept (HBA.out.block _ HN11.out.lt)
          have HSK : Hid (∀ V, Below V2.heap.size V2 V → Te w bm ⟨m1, m2, m3, m4, m5, m6⟩ ⟨x1, x2, x3, x4, x5, x6⟩ t V ∧ NodeAt V bk 0 ⟨k1, k2, k3, k4, k5, k6⟩ ∧ NodeAt V b21 1 ⟨f1, f2, k3, f4, f5, f6⟩ ∧ VT V 0 ⟨k1, k2, k3, k4, k5, k6⟩ y ∧ VT V 0 ⟨f1, f2, k3, f4, f5, f6⟩ y ∧ V.heap[D]? = some (.deferred (some []))) := Lib.hid fun V hV =>
            ⟨hEf.next hV, hN.kept (hV.block _ hN.lt), HNF.out.kept (hV.block _ HNF.out.lt), hky2.next hV, hfy2.next hV, mark_kept (mark_kept HD11.out HBA.out) hV⟩
          clear hky hfy hky2 hfy2 hEf hN HBA HNF HCS HE11 HF11 HD11 HN11 HO11 g1 g2 g3 g4 hr0w h0
          refine wp_mono (Q := NoP _) ?_ (fun e a w h => h.2)
          refine wp_region_L (st := [16]) (S := fun V => Te w bm ⟨m1, m2, m3, m4, m5, m6⟩ ⟨x1, x2, x3, x4, x5, x6⟩ t V ∧ NodeAt V bk 0 ⟨k1, k2, k3, k4, k5, k6⟩ ∧ NodeAt V b21 1 ⟨f1, f2, k3, f4, f5, f6⟩ ∧ VT V 0 ⟨k1, k2, k3, k4, k5, k6⟩ y ∧ VT V 0 ⟨f1, f2, k3, f4, f5, f6⟩ y ∧ V.heap[D]? = some (.deferred (some []))) (by kernel_rfl) (HSK.out _ (drew_below V2)) (fun hHeld => ?_)
          refine wpAnyL_take (i := 0) (oi := _) (v := ?_) rfl (by kernel_rfl) (by kernel_rfl) (by kernel_rfl) (by decide) (by kernel_rfl) (by kernel_rfl) (by kernel_rfl) (fun c _ _ h => absurd rfl (h.1 c)) (Or.inl ⟨by rfl, ?_⟩) (by assumption) ?_
          rotate_left
          · (intro w hSw; obtain ⟨_, ⟨c0, c1, c2, c3⟩, ⟨d0, d1, d2, d3⟩, _, _, _⟩ := hSw; simp only [Nat.zero_add, Nat.reduceAdd] at c0 c1 c2 c3 d0 d1 d2 d3; go_simp; try with_reducible rfl)
          try simp only [List.getElem_toArray, List.getElem_cons_zero, Act.put, List.setIfInBounds_toArray, List.set_cons_zero, List.set_cons_succ]
          refine wpAnyL_take (i := 1) (oi := _) (v := ?_) rfl (by kernel_rfl) (by kernel_rfl) (by kernel_rfl) (by decide) (by kernel_rfl) (by kernel_rfl) (by kernel_rfl) (fun c _ _ h => absurd rfl (h.1 c)) (Or.inl ⟨by rfl, ?_⟩) (by assumption) ?_
          rotate_left
          · (intro w hSw; obtain ⟨_, ⟨c0, c1, c2, c3⟩, ⟨d0, d1, d2, d3⟩, _, _, _⟩ := hSw; simp only [Nat.zero_add, Nat.reduceAdd] at c0 c1 c2 c3 d0 d1 d2 d3; go_simp; try with_reducible rfl)
          try simp only [List.getElem_toArray, List.getElem_cons_zero, List.getElem_cons_succ, Act.put, List.setIfInBounds_toArray, List.set_cons_zero, List.set_cons_succ]
          refine wpAnyL_take (i := 2) (oi := _) (v := ?_) rfl (by kernel_rfl) (by kernel_rfl) (by kernel_rfl) (by decide) (by kernel_rfl) (by kernel_rfl) (by kernel_rfl) (fun c _ _ h => absurd rfl (h.1 c)) (Or.inl ⟨by rfl, ?_⟩) (by assumption) ?_
          rotate_left
          · (intro w hSw; obtain ⟨_, ⟨c0, c1, c2, c3⟩, ⟨d0, d1, d2, d3⟩, _, _, _⟩ := hSw; simp only [Nat.zero_add, Nat.reduceAdd] at c0 c1 c2 c3 d0 d1 d2 d3; go_simp; try with_reducible rfl)
          try simp only [List.getElem_toArray, List.getElem_cons_zero, List.getElem_cons_succ, Act.put, List.setIfInBounds_toArray, List.set_cons_zero, List.set_cons_succ]
          refine wpAnyL_take (i := 4) (oi := _) (v := ?_) rfl (by kernel_rfl) (by kernel_rfl) (by kernel_rfl) (by decide) (by kernel_rfl) (by kernel_rfl) (by kernel_rfl) (fun c _ _ h => absurd rfl (h.1 c)) (Or.inl ⟨by rfl, ?_⟩) (by assumption) ?_
          rotate_left
          · (intro w hSw; obtain ⟨_, ⟨c0, c1, c2, c3⟩, ⟨d0, d1, d2, d3⟩, _, _, _⟩ := hSw; simp only [Nat.zero_add, Nat.reduceAdd] at c0 c1 c2 c3 d0 d1 d2 d3; go_simp; try with_reducible rfl)
          try simp only [List.getElem_toArray, List.getElem_cons_zero, List.getElem_cons_succ, Act.put, List.setIfInBounds_toArray, List.set_cons_zero, List.set_cons_succ]
          refine wpAnyL_take (i := 5) (oi := _) (v := ?_) rfl (by kernel_rfl) (by kernel_rfl) (by kernel_rfl) (by decide) (by kernel_rfl) (by kernel_rfl) (by kernel_rfl) (fun c _ _ h => absurd rfl (h.1 c)) (Or.inl ⟨by rfl, ?_⟩) (by assumption) ?_
          rotate_left
          · (intro w hSw; obtain ⟨_, ⟨c0, c1, c2, c3⟩, ⟨d0, d1, d2, d3⟩, _, _, _⟩ := hSw; simp only [Nat.zero_add, Nat.reduceAdd] at c0 c1 c2 c3 d0 d1 d2 d3; go_simp; try with_reducible rfl)
          try simp only [List.getElem_toArray, List.getElem_cons_zero, List.getElem_cons_succ, Act.put, List.setIfInBounds_toArray, List.set_cons_zero, List.set_cons_succ]
          refine wpAnyL_ready (rs := [3]) (by kernel_rfl) (by simp) ?_
          refine AllReadyL.cons (o := _) rfl (fun K hK => ?_) AllReadyL.nil
          go_simp
          have CT2 := told_of ⟨k1, k2, k3, k4, k5, k6⟩ y 0 _ (HSK.out _ (drew_below V2)).2.2.2.1 (by omega)
          simp only [Nd.val] at CT2
          refine CT2.mono ?_
          rintro e w8 ⟨⟨j1, j2, j3, j4, j5, j6⟩, rfl, hvj, hb8⟩
          simp only [Nd.val]
          have HVa := Lib.hid ((drew_below V2).trans (hb8.mono (drew_below V2).size))
          have HVj := Lib.hid hvj
          clear CT2 hb8 hvj
          refine hK.out _ _ (HSK.out _ HVa.out) (fun hHeld => ?_)
          clear hK K
          try simp only [List.getElem_toArray, List.getElem_cons_zero, List.getElem_cons_succ, Act.put, List.setIfInBounds_toArray, List.set_cons_zero, List.set_cons_succ]
          refine wpAnyL_ready (rs := [6]) (by kernel_rfl) (by simp) ?_
          refine AllReadyL.cons (o := _) rfl (fun K hK => ?_) AllReadyL.nil
          go_simp
          have CT3 := rsame_of ⟨j1, j2, j3, j4, j5, j6⟩ ⟨f1, f2, k3, f4, f5, f6⟩ y y _ 0 _ HVj.out (HSK.out _ HVa.out).2.2.2.2.1 (by omega)
          rw [sameT_self] at CT3
          simp only [Nd.val] at CT3
          refine CT3.mono ?_
          rintro e w8 ⟨rfl, hb8⟩
          have HVb := Lib.hid (HVa.out.trans (hb8.mono HVa.out.size))
          clear CT3 hb8
          refine hK.out _ _ (HSK.out _ HVb.out) (fun hHeld => ?_)
          clear hK K
          try simp only [List.getElem_toArray, List.getElem_cons_zero, List.getElem_cons_succ, Act.put, List.setIfInBounds_toArray, List.set_cons_zero, List.set_cons_succ]
          refine wpAnyL_take (i := 7) (oi := _) (v := ?_) rfl (by kernel_rfl) (by kernel_rfl) (by kernel_rfl) (by decide) (by kernel_rfl) (by kernel_rfl) (by kernel_rfl) (fun c _ _ h => absurd rfl (h.1 c)) (Or.inl ⟨by rfl, ?_⟩) (by assumption) ?_
          rotate_left
          · (intro w hSw; obtain ⟨_, ⟨c0, c1, c2, c3⟩, ⟨d0, d1, d2, d3⟩, _, _, _⟩ := hSw; simp only [Nat.zero_add, Nat.reduceAdd] at c0 c1 c2 c3 d0 d1 d2 d3; go_simp; try with_reducible rfl)
          try simp only [List.getElem_toArray, List.getElem_cons_zero, List.getElem_cons_succ, Act.put, List.setIfInBounds_toArray, List.set_cons_zero, List.set_cons_succ]
          refine wpAnyL_take (i := 8) (oi := _) (v := ?_) rfl (by kernel_rfl) (by kernel_rfl) (by kernel_rfl) (by decide) (by kernel_rfl) (by kernel_rfl) (by kernel_rfl) (fun c _ _ h => absurd rfl (h.1 c)) (Or.inl ⟨by rfl, ?_⟩) (by assumption) ?_
          rotate_left
          · (intro w hSw; obtain ⟨_, ⟨c0, c1, c2, c3⟩, ⟨d0, d1, d2, d3⟩, _, _, _⟩ := hSw; simp only [Nat.zero_add, Nat.reduceAdd] at c0 c1 c2 c3 d0 d1 d2 d3; go_simp; try with_reducible rfl)
          try simp only [List.getElem_toArray, List.getElem_cons_zero, List.getElem_cons_succ, Act.put, List.setIfInBounds_toArray, List.set_cons_zero, List.set_cons_succ]
          refine wpAnyL_take (i := 9) (oi := _) (v := ?_) rfl (by kernel_rfl) (by kernel_rfl) (by kernel_rfl) (by decide) (by kernel_rfl) (by kernel_rfl) (by kernel_rfl) (fun c _ _ h => absurd rfl (h.1 c)) (Or.inl ⟨by rfl, ?_⟩) (by assumption) ?_
          rotate_left
          · (intro w hSw; obtain ⟨_, ⟨c0, c1, c2, c3⟩, ⟨d0, d1, d2, d3⟩, _, _, _⟩ := hSw; simp only [Nat.zero_add, Nat.reduceAdd] at c0 c1 c2 c3 d0 d1 d2 d3; go_simp; try with_reducible rfl)
          try simp only [List.getElem_toArray, List.getElem_cons_zero, List.getElem_cons_succ, Act.put, List.setIfInBounds_toArray, List.set_cons_zero, List.set_cons_succ]
          refine wpAnyL_take (i := 10) (oi := _) (v := ?_) rfl (by kernel_rfl) (by kernel_rfl) (by kernel_rfl) (by decide) (by kernel_rfl) (by kernel_rfl) (by kernel_rfl) (fun c _ _ h => absurd rfl (h.1 c)) (Or.inl ⟨by rfl, ?_⟩) (by assumption) ?_
          rotate_left
          · (intro w hSw; obtain ⟨_, ⟨c0, c1, c2, c3⟩, ⟨d0, d1, d2, d3⟩, _, _, _⟩ := hSw; simp only [Nat.zero_add, Nat.reduceAdd] at c0 c1 c2 c3 d0 d1 d2 d3; go_simp; try with_reducible rfl)
          try simp only [List.getElem_toArray, List.getElem_cons_zero, List.getElem_cons_succ, Act.put, List.setIfInBounds_toArray, List.set_cons_zero, List.set_cons_succ]
          refine wpAnyL_take (i := 11) (oi := _) (v := ?_) rfl (by kernel_rfl) (by kernel_rfl) (by kernel_rfl) (by decide) (by kernel_rfl) (by kernel_rfl) (by kernel_rfl) (fun c _ _ h => absurd rfl (h.1 c)) (Or.inl ⟨by rfl, ?_⟩) (by assumption) ?_
          rotate_left
          · (intro w hSw; obtain ⟨_, ⟨c0, c1, c2, c3⟩, ⟨d0, d1, d2, d3⟩, _, _, _⟩ := hSw; simp only [Nat.zero_add, Nat.reduceAdd] at c0 c1 c2 c3 d0 d1 d2 d3; go_simp; try with_reducible rfl)
          try simp only [List.getElem_toArray, List.getElem_cons_zero, List.getElem_cons_succ, Act.put, List.setIfInBounds_toArray, List.set_cons_zero, List.set_cons_succ]
          refine wpAnyL_take (i := 12) (oi := _) (v := ?_) rfl (by kernel_rfl) (by kernel_rfl) (by kernel_rfl) (by decide) (by kernel_rfl) (by kernel_rfl) (by kernel_rfl) (fun c _ _ h => absurd rfl (h.1 c)) (Or.inl ⟨by rfl, ?_⟩) (by assumption) ?_
          rotate_left
          · (intro w hSw; obtain ⟨_, ⟨c0, c1, c2, c3⟩, ⟨d0, d1, d2, d3⟩, _, _, _⟩ := hSw; simp only [Nat.zero_add, Nat.reduceAdd] at c0 c1 c2 c3 d0 d1 d2 d3; go_simp; try with_reducible rfl)
          try simp only [List.getElem_toArray, List.getElem_cons_zero, List.getElem_cons_succ, Act.put, List.setIfInBounds_toArray, List.set_cons_zero, List.set_cons_succ]
          refine wpAnyL_take (i := 13) (oi := _) (v := ?_) rfl (by kernel_rfl) (by kernel_rfl) (by kernel_rfl) (by decide) (by kernel_rfl) (by kernel_rfl) (by kernel_rfl) (fun c _ _ h => absurd rfl (h.1 c)) (Or.inl ⟨by rfl, ?_⟩) (by assumption) ?_
          rotate_left
          · (intro w hSw; obtain ⟨_, ⟨c0, c1, c2, c3⟩, ⟨d0, d1, d2, d3⟩, _, _, _⟩ := hSw; simp only [Nat.zero_add, Nat.reduceAdd] at c0 c1 c2 c3 d0 d1 d2 d3; go_simp; try with_reducible rfl)
          try simp only [List.getElem_toArray, List.getElem_cons_zero, List.getElem_cons_succ, Act.put, List.setIfInBounds_toArray, List.set_cons_zero, List.set_cons_succ]
          refine wpAnyL_take (i := 14) (oi := _) (v := ?_) rfl (by kernel_rfl) (by kernel_rfl) (by kernel_rfl) (by decide) (by kernel_rfl) (by kernel_rfl) (by kernel_rfl) (fun c _ _ h => absurd rfl (h.1 c)) (Or.inl ⟨by rfl, ?_⟩) (by assumption) ?_
          rotate_left
          · (intro w hSw; obtain ⟨_, ⟨c0, c1, c2, c3⟩, ⟨d0, d1, d2, d3⟩, _, _, _⟩ := hSw; simp only [Nat.zero_add, Nat.reduceAdd] at c0 c1 c2 c3 d0 d1 d2 d3; go_simp; try with_reducible rfl)
          try simp only [List.getElem_toArray, List.getElem_cons_zero, List.getElem_cons_succ, Act.put, List.setIfInBounds_toArray, List.set_cons_zero, List.set_cons_succ]
          refine wpAnyL_take (i := 15) (oi := _) (v := ?_) rfl (by kernel_rfl) (by kernel_rfl) (by kernel_rfl) (by decide) (by kernel_rfl) (by kernel_rfl) (by kernel_rfl) (fun c _ _ h => absurd rfl (h.1 c)) (Or.inl ⟨by rfl, ?_⟩) (by assumption) ?_
          rotate_left
          · (intro w hSw; obtain ⟨_, ⟨c0, c1, c2, c3⟩, ⟨d0, d1, d2, d3⟩, _, _, _⟩ := hSw; simp only [Nat.zero_add, Nat.reduceAdd] at c0 c1 c2 c3 d0 d1 d2 d3; go_simp; try with_reducible rfl)
          try simp only [List.getElem_toArray, List.getElem_cons_zero, List.getElem_cons_succ, Act.put, List.setIfInBounds_toArray, List.set_cons_zero, List.set_cons_succ]
          have r0 : w8.cell? ⟨w.heap.size, 0, none⟩ = some (.bool false) := as_cell hHeld.1.res
          have r1 : w8.frozen? ⟨w.heap.size, 0, none⟩ = false := as_frozen hHeld.1.res
          have HRf : Hid ((w8.setCell ⟨w.heap.size, 0, none⟩ (.bool true)).heap[w.heap.size]? = some (.cells #[.bool true] 4 (0, 0))) := Lib.hid (by simpa using as_setCell_block (i := 0) hHeld.1.res (.bool true))
          have HDf := Lib.hid hHeld.2.2.2.2.2
          have HBf := Lib.hid hHeld.1.bel
          refine wpAnyL_ready (rs := [16]) (by kernel_rfl) (by simp) ?_
          refine AllReadyL.store (o := _) rfl (by decide) (by decide) (fun K hK => ?_) AllReadyL.nil
          go_simp
          refine hK.out _ _ ?_
          clear hK K
          try simp only [List.getElem_toArray, List.getElem_cons_zero, List.getElem_cons_succ, Act.put, List.setIfInBounds_toArray, List.set_cons_zero, List.set_cons_succ]
          refine wpAnyL_done (by kernel_rfl) ?_ _
          refine ⟨by simp, ?_⟩
          go_wp2_with fail
          have hne : w.heap.size ≠ D := HDN.out
          refine ⟨by simp, .inl ⟨_, _, rfl, run_takeDeferred ((Below.heap_setCell _ ⟨w.heap.size, 0, none⟩ _ D (fun e => hne e.symm)).trans HDf.out), ?_⟩⟩
          refine ⟨.bool true, ?_, rfl, below_put (HBf.out.setCell (p := ⟨w.heap.size, 0, none⟩) (Nat.le_refl _) _) HDw.out _⟩
          have cf := as_cell (i := 0) ((World.putObj_heap_other (o := .deferred none) hne).trans HRf.out)
          simp [results, Tryd.results3, go_sem, cf]
        | false =>
          have h0 : (f1.toList == op2.toList) = false := e0
          cases e1 : eqB f1 ⟨#[110, 111, 110, 101, 32, 115, 117, 99, 104]⟩ with
          | true =>
            have h1 : (f1.toList == [110, 111, 110, 101, 32, 115, 117, 99, 104]) = true := by
              have h := e1
              unfold eqB at h
              rw [show (⟨#[110, 111, 110, 101, 32, 115, 117, 99, 104]⟩ : ByteArray).toList = [110, 111, 110, 101, 32, 115, 117, 99, 104] from by first | rfl | decide | simp] at h
              exact h
            obtain ⟨y, hky, hfy, rfl, rfl, hys⟩ := HFA.out (by rw [e0, e1]; rfl)
            clear e0 e1 HFA HNX
            go_wp2_with fail
            generalize (wr.alloc (.cells #[.int .i64 (fd : Int), .string f1, .string f2, .int .i64 k3, .slice f4 f5 f6] 43)) = V2 at *
            generalize wr.heap.size = b21 at *
            have hky2 := hky.next HBA.out
            have hfy2 := hfy.next HBA.out
            have hEf := HE11.out.next HBA.out
            have hN := HN11.out.kept (HBA.out.block _ HN11.out.lt)
            have HSK : Hid (∀ V, Below V2.heap.size V2 V → Te w bm ⟨m1, m2, m3, m4, m5, m6⟩ ⟨x1, x2, x3, x4, x5, x6⟩ t V ∧ NodeAt V bk 0 ⟨k1, k2, k3, k4, k5, k6⟩ ∧ NodeAt V b21 1 ⟨f1, f2, k3, f4, f5, f6⟩ ∧ VT V 0 ⟨k1, k2, k3, k4, k5, k6⟩ y ∧ VT V 0 ⟨f1, f2, k3, f4, f5, f6⟩ y ∧ V.heap[D]? = some (.deferred (some []))) := Lib.hid fun V hV =>
              ⟨hEf.next hV, hN.kept (hV.block _ hN.lt), HNF.out.kept (hV.block _ HNF.out.lt), hky2.next hV, hfy2.next hV, mark_kept (mark_kept HD11.out HBA.out) hV⟩
            clear hky hfy hky2 hfy2 hEf hN HBA HNF HCS HE11 HF11 HD11 HN11 HO11 g1 g2 g3 g4 hr0w h0 h1
            refine wp_mono (Q := NoP _) ?_ (fun e a w h => h.2)
            refine wp_region_L (st := [16]) (S := fun V => Te w bm ⟨m1, m2, m3, m4, m5, m6⟩ ⟨x1, x2, x3, x4, x5, x6⟩ t V ∧ NodeAt V bk 0 ⟨k1, k2, k3, k4, k5, k6⟩ ∧ NodeAt V b21 1 ⟨f1, f2, k3, f4, f5, f6⟩ ∧ VT V 0 ⟨k1, k2, k3, k4, k5, k6⟩ y ∧ VT V 0 ⟨f1, f2, k3, f4, f5, f6⟩ y ∧ V.heap[D]? = some (.deferred (some []))) (by kernel_rfl) (HSK.out _ (drew_below V2)) (fun hHeld => ?_)
            refine wpAnyL_take (i := 0) (oi := _) (v := ?_) rfl (by kernel_rfl) (by kernel_rfl) (by kernel_rfl) (by decide) (by kernel_rfl) (by kernel_rfl) (by kernel_rfl) (fun c _ _ h => absurd rfl (h.1 c)) (Or.inl ⟨by rfl, ?_⟩) (by assumption) ?_
            rotate_left
            · (intro w hSw; obtain ⟨_, ⟨c0, c1, c2, c3⟩, ⟨d0, d1, d2, d3⟩, _, _, _⟩ := hSw; simp only [Nat.zero_add, Nat.reduceAdd] at c0 c1 c2 c3 d0 d1 d2 d3; go_simp; try with_reducible rfl)
            try simp only [List.getElem_toArray, List.getElem_cons_zero, Act.put, List.setIfInBounds_toArray, List.set_cons_zero, List.set_cons_succ]
            refine wpAnyL_take (i := 1) (oi := _) (v := ?_) rfl (by kernel_rfl) (by kernel_rfl) (by kernel_rfl) (by decide) (by kernel_rfl) (by kernel_rfl) (by kernel_rfl) (fun c _ _ h => absurd rfl (h.1 c)) (Or.inl ⟨by rfl, ?_⟩) (by assumption) ?_
            rotate_left
            · (intro w hSw; obtain ⟨_, ⟨c0, c1, c2, c3⟩, ⟨d0, d1, d2, d3⟩, _, _, _⟩ := hSw; simp only [Nat.zero_add, Nat.reduceAdd] at c0 c1 c2 c3 d0 d1 d2 d3; go_simp; try with_reducible rfl)
            try simp only [List.getElem_toArray, List.getElem_cons_zero, List.getElem_cons_succ, Act.put, List.setIfInBounds_toArray, List.set_cons_zero, List.set_cons_succ]
            refine wpAnyL_take (i := 2) (oi := _) (v := ?_) rfl (by kernel_rfl) (by kernel_rfl) (by kernel_rfl) (by decide) (by kernel_rfl) (by kernel_rfl) (by kernel_rfl) (fun c _ _ h => absurd rfl (h.1 c)) (Or.inl ⟨by rfl, ?_⟩) (by assumption) ?_
            rotate_left
            · (intro w hSw; obtain ⟨_, ⟨c0, c1, c2, c3⟩, ⟨d0, d1, d2, d3⟩, _, _, _⟩ := hSw; simp only [Nat.zero_add, Nat.reduceAdd] at c0 c1 c2 c3 d0 d1 d2 d3; go_simp; try with_reducible rfl)
            try simp only [List.getElem_toArray, List.getElem_cons_zero, List.getElem_cons_succ, Act.put, List.setIfInBounds_toArray, List.set_cons_zero, List.set_cons_succ]
            refine wpAnyL_take (i := 4) (oi := _) (v := ?_) rfl (by kernel_rfl) (by kernel_rfl) (by kernel_rfl) (by decide) (by kernel_rfl) (by kernel_rfl) (by kernel_rfl) (fun c _ _ h => absurd rfl (h.1 c)) (Or.inl ⟨by rfl, ?_⟩) (by assumption) ?_
            rotate_left
            · (intro w hSw; obtain ⟨_, ⟨c0, c1, c2, c3⟩, ⟨d0, d1, d2, d3⟩, _, _, _⟩ := hSw; simp only [Nat.zero_add, Nat.reduceAdd] at c0 c1 c2 c3 d0 d1 d2 d3; go_simp; try with_reducible rfl)
            try simp only [List.getElem_toArray, List.getElem_cons_zero, List.getElem_cons_succ, Act.put, List.setIfInBounds_toArray, List.set_cons_zero, List.set_cons_succ]
            refine wpAnyL_take (i := 5) (oi := _) (v := ?_) rfl (by kernel_rfl) (by kernel_rfl) (by kernel_rfl) (by decide) (by kernel_rfl) (by kernel_rfl) (by kernel_rfl) (fun c _ _ h => absurd rfl (h.1 c)) (Or.inl ⟨by rfl, ?_⟩) (by assumption) ?_
            rotate_left
            · (intro w hSw; obtain ⟨_, ⟨c0, c1, c2, c3⟩, ⟨d0, d1, d2, d3⟩, _, _, _⟩ := hSw; simp only [Nat.zero_add, Nat.reduceAdd] at c0 c1 c2 c3 d0 d1 d2 d3; go_simp; try with_reducible rfl)
            try simp only [List.getElem_toArray, List.getElem_cons_zero, List.getElem_cons_succ, Act.put, List.setIfInBounds_toArray, List.set_cons_zero, List.set_cons_succ]
            refine wpAnyL_ready (rs := [3]) (by kernel_rfl) (by simp) ?_
            refine AllReadyL.cons (o := _) rfl (fun K hK => ?_) AllReadyL.nil
            go_simp
            have CT2 := told_of ⟨k1, k2, k3, k4, k5, k6⟩ y 0 _ (HSK.out _ (drew_below V2)).2.2.2.1 (by omega)
            simp only [Nd.val] at CT2
            refine CT2.mono ?_
            rintro e w8 ⟨⟨j1, j2, j3, j4, j5, j6⟩, rfl, hvj, hb8⟩
            simp only [Nd.val]
            have HVa := Lib.hid ((drew_below V2).trans (hb8.mono (drew_below V2).size))
            have HVj := Lib.hid hvj
            clear CT2 hb8 hvj
            refine hK.out _ _ (HSK.out _ HVa.out) (fun hHeld => ?_)
            clear hK K
            try simp only [List.getElem_toArray, List.getElem_cons_zero, List.getElem_cons_succ, Act.put, List.setIfInBounds_toArray, List.set_cons_zero, List.set_cons_succ]
            refine wpAnyL_ready (rs := [6]) (by kernel_rfl) (by simp) ?_
            refine AllReadyL.cons (o := _) rfl (fun K hK => ?_) AllReadyL.nil
            go_simp
            have CT3 := rsame_of ⟨j1, j2, j3, j4, j5, j6⟩ ⟨f1, f2, k3, f4, f5, f6⟩ y y _ 0 _ HVj.out (HSK.out _ HVa.out).2.2.2.2.1 (by omega)
            rw [sameT_self] at CT3
            simp only [Nd.val] at CT3
            refine CT3.mono ?_
            rintro e w8 ⟨rfl, hb8⟩
            have HVb := Lib.hid (HVa.out.trans (hb8.mono HVa.out.size))
            clear CT3 hb8
            refine hK.out _ _ (HSK.out _ HVb.out) (fun hHeld => ?_)
            clear hK K
            try simp only [List.getElem_toArray, List.getElem_cons_zero, List.getElem_cons_succ, Act.put, List.setIfInBounds_toArray, List.set_cons_zero, List.set_cons_succ]
            refine wpAnyL_take (i := 7) (oi := _) (v := ?_) rfl (by kernel_rfl) (by kernel_rfl) (by kernel_rfl) (by decide) (by kernel_rfl) (by kernel_rfl) (by kernel_rfl) (fun c _ _ h => absurd rfl (h.1 c)) (Or.inl ⟨by rfl, ?_⟩) (by assumption) ?_
            rotate_left
            · (intro w hSw; obtain ⟨_, ⟨c0, c1, c2, c3⟩, ⟨d0, d1, d2, d3⟩, _, _, _⟩ := hSw; simp only [Nat.zero_add, Nat.reduceAdd] at c0 c1 c2 c3 d0 d1 d2 d3; go_simp; try with_reducible rfl)
            try simp only [List.getElem_toArray, List.getElem_cons_zero, List.getElem_cons_succ, Act.put, List.setIfInBounds_toArray, List.set_cons_zero, List.set_cons_succ]
            refine wpAnyL_take (i := 8) (oi := _) (v := ?_) rfl (by kernel_rfl) (by kernel_rfl) (by kernel_rfl) (by decide) (by kernel_rfl) (by kernel_rfl) (by kernel_rfl) (fun c _ _ h => absurd rfl (h.1 c)) (Or.inl ⟨by rfl, ?_⟩) (by assumption) ?_
            rotate_left
            · (intro w hSw; obtain ⟨_, ⟨c0, c1, c2, c3⟩, ⟨d0, d1, d2, d3⟩, _, _, _⟩ := hSw; simp only [Nat.zero_add, Nat.reduceAdd] at c0 c1 c2 c3 d0 d1 d2 d3; go_simp; try with_reducible rfl)
            try simp only [List.getElem_toArray, List.getElem_cons_zero, List.getElem_cons_succ, Act.put, List.setIfInBounds_toArray, List.set_cons_zero, List.set_cons_succ]
            refine wpAnyL_take (i := 9) (oi := _) (v := ?_) rfl (by kernel_rfl) (by kernel_rfl) (by kernel_rfl) (by decide) (by kernel_rfl) (by kernel_rfl) (by kernel_rfl) (fun c _ _ h => absurd rfl (h.1 c)) (Or.inl ⟨by rfl, ?_⟩) (by assumption) ?_
            rotate_left
            · (intro w hSw; obtain ⟨_, ⟨c0, c1, c2, c3⟩, ⟨d0, d1, d2, d3⟩, _, _, _⟩ := hSw; simp only [Nat.zero_add, Nat.reduceAdd] at c0 c1 c2 c3 d0 d1 d2 d3; go_simp; try with_reducible rfl)
            try simp only [List.getElem_toArray, List.getElem_cons_zero, List.getElem_cons_succ, Act.put, List.setIfInBounds_toArray, List.set_cons_zero, List.set_cons_succ]
            refine wpAnyL_take (i := 10) (oi := _) (v := ?_) rfl (by kernel_rfl) (by kernel_rfl) (by kernel_rfl) (by decide) (by kernel_rfl) (by kernel_rfl) (by kernel_rfl) (fun c _ _ h => absurd rfl (h.1 c)) (Or.inl ⟨by rfl, ?_⟩) (by assumption) ?_
            rotate_left
            · (intro w hSw; obtain ⟨_, ⟨c0, c1, c2, c3⟩, ⟨d0, d1, d2, d3⟩, _, _, _⟩ := hSw; simp only [Nat.zero_add, Nat.reduceAdd] at c0 c1 c2 c3 d0 d1 d2 d3; go_simp; try with_reducible rfl)
            try simp only [List.getElem_toArray, List.getElem_cons_zero, List.getElem_cons_succ, Act.put, List.setIfInBounds_toArray, List.set_cons_zero, List.set_cons_succ]
            refine wpAnyL_take (i := 11) (oi := _) (v := ?_) rfl (by kernel_rfl) (by kernel_rfl) (by kernel_rfl) (by decide) (by kernel_rfl) (by kernel_rfl) (by kernel_rfl) (fun c _ _ h => absurd rfl (h.1 c)) (Or.inl ⟨by rfl, ?_⟩) (by assumption) ?_
            rotate_left
            · (intro w hSw; obtain ⟨_, ⟨c0, c1, c2, c3⟩, ⟨d0, d1, d2, d3⟩, _, _, _⟩ := hSw; simp only [Nat.zero_add, Nat.reduceAdd] at c0 c1 c2 c3 d0 d1 d2 d3; go_simp; try with_reducible rfl)
            try simp only [List.getElem_toArray, List.getElem_cons_zero, List.getElem_cons_succ, Act.put, List.setIfInBounds_toArray, List.set_cons_zero, List.set_cons_succ]
            refine wpAnyL_take (i := 12) (oi := _) (v := ?_) rfl (by kernel_rfl) (by kernel_rfl) (by kernel_rfl) (by decide) (by kernel_rfl) (by kernel_rfl) (by kernel_rfl) (fun c _ _ h => absurd rfl (h.1 c)) (Or.inl ⟨by rfl, ?_⟩) (by assumption) ?_
            rotate_left
            · (intro w hSw; obtain ⟨_, ⟨c0, c1, c2, c3⟩, ⟨d0, d1, d2, d3⟩, _, _, _⟩ := hSw; simp only [Nat.zero_add, Nat.reduceAdd] at c0 c1 c2 c3 d0 d1 d2 d3; go_simp; try with_reducible rfl)
            try simp only [List.getElem_toArray, List.getElem_cons_zero, List.getElem_cons_succ, Act.put, List.setIfInBounds_toArray, List.set_cons_zero, List.set_cons_succ]
            refine wpAnyL_take (i := 13) (oi := _) (v := ?_) rfl (by kernel_rfl) (by kernel_rfl) (by kernel_rfl) (by decide) (by kernel_rfl) (by kernel_rfl) (by kernel_rfl) (fun c _ _ h => absurd rfl (h.1 c)) (Or.inl ⟨by rfl, ?_⟩) (by assumption) ?_
            rotate_left
            · (intro w hSw; obtain ⟨_, ⟨c0, c1, c2, c3⟩, ⟨d0, d1, d2, d3⟩, _, _, _⟩ := hSw; simp only [Nat.zero_add, Nat.reduceAdd] at c0 c1 c2 c3 d0 d1 d2 d3; go_simp; try with_reducible rfl)
            try simp only [List.getElem_toArray, List.getElem_cons_zero, List.getElem_cons_succ, Act.put, List.setIfInBounds_toArray, List.set_cons_zero, List.set_cons_succ]
            refine wpAnyL_take (i := 14) (oi := _) (v := ?_) rfl (by kernel_rfl) (by kernel_rfl) (by kernel_rfl) (by decide) (by kernel_rfl) (by kernel_rfl) (by kernel_rfl) (fun c _ _ h => absurd rfl (h.1 c)) (Or.inl ⟨by rfl, ?_⟩) (by assumption) ?_
            rotate_left
            · (intro w hSw; obtain ⟨_, ⟨c0, c1, c2, c3⟩, ⟨d0, d1, d2, d3⟩, _, _, _⟩ := hSw; simp only [Nat.zero_add, Nat.reduceAdd] at c0 c1 c2 c3 d0 d1 d2 d3; go_simp; try with_reducible rfl)
            try simp only [List.getElem_toArray, List.getElem_cons_zero, List.getElem_cons_succ, Act.put, List.setIfInBounds_toArray, List.set_cons_zero, List.set_cons_succ]
            refine wpAnyL_take (i := 15) (oi := _) (v := ?_) rfl (by kernel_rfl) (by kernel_rfl) (by kernel_rfl) (by decide) (by kernel_rfl) (by kernel_rfl) (by kernel_rfl) (fun c _ _ h => absurd rfl (h.1 c)) (Or.inl ⟨by rfl, ?_⟩) (by assumption) ?_
            rotate_left
            · (intro w hSw; obtain ⟨_, ⟨c0, c1, c2, c3⟩, ⟨d0, d1, d2, d3⟩, _, _, _⟩ := hSw; simp only [Nat.zero_add, Nat.reduceAdd] at c0 c1 c2 c3 d0 d1 d2 d3; go_simp; try with_reducible rfl)
            try simp only [List.getElem_toArray, List.getElem_cons_zero, List.getElem_cons_succ, Act.put, List.setIfInBounds_toArray, List.set_cons_zero, List.set_cons_succ]
            have r0 : w8.cell? ⟨w.heap.size, 0, none⟩ = some (.bool false) := as_cell hHeld.1.res
            have r1 : w8.frozen? ⟨w.heap.size, 0, none⟩ = false := as_frozen hHeld.1.res
            have HRf : Hid ((w8.setCell ⟨w.heap.size, 0, none⟩ (.bool true)).heap[w.heap.size]? = some (.cells #[.bool true] 4 (0, 0))) := Lib.hid (by simpa using as_setCell_block (i := 0) hHeld.1.res (.bool true))
            have HDf := Lib.hid hHeld.2.2.2.2.2
            have HBf := Lib.hid hHeld.1.bel
            refine wpAnyL_ready (rs := [16]) (by kernel_rfl) (by simp) ?_
            refine AllReadyL.store (o := _) rfl (by decide) (by decide) (fun K hK => ?_) AllReadyL.nil
            go_simp
            refine hK.out _ _ ?_
            clear hK K
            try simp only [List.getElem_toArray, List.getElem_cons_zero, List.getElem_cons_succ, Act.put, List.setIfInBounds_toArray, List.set_cons_zero, List.set_cons_succ]
            refine wpAnyL_done (by kernel_rfl) ?_ _
            refine ⟨by simp, ?_⟩
            go_wp2_with fail
            have hne : w.heap.size ≠ D := HDN.out
            refine ⟨by simp, .inl ⟨_, _, rfl, run_takeDeferred ((Below.heap_setCell _ ⟨w.heap.size, 0, none⟩ _ D (fun e => hne e.symm)).trans HDf.out), ?_⟩⟩
            refine ⟨.bool true, ?_, rfl, below_put (HBf.out.setCell (p := ⟨w.heap.size, 0, none⟩) (Nat.le_refl _) _) HDw.out _⟩
            have cf := as_cell (i := 0) ((World.putObj_heap_other (o := .deferred none) hne).trans HRf.out)
            simp [results, Tryd.results3, go_sem, cf]
          | false =>
            have h1 : (f1.toList == [110, 111, 110, 101, 32, 115, 117, 99, 104]) = false := by
              have h := e1
              unfold eqB at h
              rw [show (⟨#[110, 111, 110, 101, 32, 115, 117, 99, 104]⟩ : ByteArray).toList = [110, 111, 110, 101, 32, 115, 117, 99, 104] from by first | rfl | decide | simp] at h
              exact h
            have HS2 := Lib.hid (HNX.out (by rw [e0, e1]; rfl))
            clear e0 e1 HFA HNX
            go_wp2_with fail
            go_roundw
            case measure => simp [intOf]; omega
            case rel => exact ⟨k + 1, by omega, by simp, HS2, HBA⟩
      · obtain rfl : k = t.size := by omega
        have hki : ¬ (t.size : Int) < (t.size : Int) := by omega
        have HK : Hid (b = false ∧ (⟨k1, k2, k3, k4, k5, k6⟩ : Nd) = nd0) := Lib.hid (by
          rcases HCS.out with ⟨_, p, x, q, e1, e2, e3, _⟩ | ⟨h1, h2, _⟩
          · have hl : p.length < (flatTT 0 t).length := by rw [e1]; simp
            have := HS.out p.length hl (by rw [flatTT_len] at hl; exact hl)
            have hx : (flatTT 0 t)[p.length] = x := by simp [e1]
            rw [hx, e3] at this
            cases this
          · exact ⟨h1, h2⟩)
        obtain ⟨rfl, hk0⟩ := HK.out
        unfold nd0 at hk0
        injection hk0 with j1 j2 j3 j4 j5 j6
        subst j1 j2 j3 j4 j5 j6
        have hEf := HE11.out.next HB.out
        have hN := HN11.out.kept (HB.out.block _ HN11.out.lt)
        obtain ⟨c0, c1, c2, c3⟩ := hN
        simp only [Nat.zero_add] at c0 c1 c2 c3
        have r0 : wr.cell? ⟨w.heap.size, 0, none⟩ = some (.bool false) := as_cell hEf.res
        have r1 : wr.frozen? ⟨w.heap.size, 0, none⟩ = false := as_frozen hEf.res
        have HDf := Lib.hid (mark_kept HD11.out HB.out)
        have HBf := Lib.hid hEf.bel
        have hrs := hEf.res
        have HRf : Hid ((wr.setCell ⟨w.heap.size, 0, none⟩ (.bool true)).heap[w.heap.size]? = some (.cells #[.bool true] 4 (0, 0))) := Lib.hid (by simpa using as_setCell_block (i := 0) hrs (.bool true))
        clear hEf hrs HCS HS HB HK HE11 HF11 HD11 HN11 HO11
        go_wp2_with fail
        have hne : w.heap.size ≠ D := HDN.out
        refine ⟨by simp, .inl ⟨_, _, rfl, run_takeDeferred ((Below.heap_setCell _ ⟨w.heap.size, 0, none⟩ _ D (fun e => hne e.symm)).trans HDf.out), ?_⟩⟩
        refine ⟨.bool true, ?_, rfl, below_put (HBf.out.setCell (p := ⟨w.heap.size, 0, none⟩) (Nat.le_refl _) _) HDw.out _⟩
        have cf := as_cell (i := 0) ((World.putObj_heap_other (o := .deferred none) hne).trans HRf.out)
        simp [results, Tryd.results3, go_sem, cf]
end Go.Proofs.YtgahamppfdhnaaaDoor
