/-
 CONTRACTS of layer 13's function, item.
-/
import Derived.Test.YtmbfdkiejneheaaGreatDoorPaXF
namespace Go.Proofs.YtmbfdkiejneheaaGreatDoor
open Go.RowKit

def oFunc : List UInt8 := [102, 117, 110, 99]
/-- A function's name. -/
def nmP (l : List Tok) : TR Tok := if (tk l).k = 5 ∨ (tk l).k = 6 then .ok (tk l, nx l) else .error (refE l)
theorem func_eq (reOk : List UInt8 → Bool) (l : List Tok) : funcP reOk l = bnd (nmP l) fun t l1 => bnd (withinP [40] (argsP paramP) [41] l1) fun ks l2 => bnd (blockP (stP reOk 50) (nlsP l2)) fun b l3 => .ok (named oFunc t (ks ++ [b]), l3) := by
 unfold funcP nmP
 split <;> rfl
set_option maxHeartbeats 8000000 in
set_option maxRecDepth 100000 in
theorem pfunc_any {reOk : List UInt8 → Bool} {K : Ps} (HS : ∀ m, OkS reOk K m) (l : List Tok) (er : ErO) (w : World) (h : Pst w K l 0 false er) :
  Calls Tryz.prog 41 #[.pointer (some ⟨K.b, 0, none⟩)] w (NdPost K w w.heap.size l (funcP reOk l) 0 false er) := by
 have C5 := kH (pkind_any K l 0 false er 5)
 have C6 := kH (pkind_any K l 0 false er 6)
 have CX := kH (prefuse_any K l 0 false er)
 have CN := kH fun l1 er1 => pnext_any K l1 0 false er1
 have CNL := kH fun l1 er1 => pnls_any K l1 0 false er1
 have CW := kH fun l0 er0 W hW => pwithin_any (K := K) (f := 56) cfPs (G := argsP paramP) (l := l0) (m := l0.length + 1) (fun l2 er2 W2 _ _ hw => pparams_any K 0 false l2 er2 W2 hw) [40] [41] false er0 W (.inl (Nat.lt_succ_self _)) hW
 have CB := kH fun l1 er1 W hW => pblock_any (HS (l1.length + 1)) 0 l1 er1 W (by decide) (.inl (Nat.lt_succ_self _)) hW
 have CM := kH fun o t p n c W => pnamed_any o t p n c W
 have HTL := kH h.tll
 have HLN : Hid (l.length ≤ 5000) := kH (by have := h.pos; omega)
 obtain ⟨i0, hi, hz0, hz1, hz2⟩ := info_parts Tryz.infoAst
 have HK : Hid (K.b < w.heap.size ∧ K.g < w.heap.size) := kH ⟨h.lt, h.glt⟩
 have HNZ : Hid (w.heap.size ≠ K.b) := kH (by have := HK.out; omega)
 have HN := kH (BlkA.new0 w)
 have H0 := kH ((Mv.refl h).alloc zN)
 have HSZ : Hid (w.heap.size + 1 = (w.alloc zN).heap.size) := kH (by simp)
 clear HS h
 by_cases h5 : (tk l).k = 5
 ·
  have HX : Hid (nmP l = .ok (tk l, nx l)) := kH (by unfold nmP; rw [if_pos (.inl h5)])
  rw [decide_eq_true (show ((tk l).k : Int) = 5 from by omega)] at C5
  clear h5
  go_enter Tryz.func41, Tryz.ntmps41
  go_wp2_with fail
  generalize w.alloc zN = w0 at *
  refine (C5.out _ H0.out.st).mono ?_
  rintro e w1 ⟨rfl, m1⟩
  have HN := kH (HN.out.onl m1.2 HNZ.out)
  have H1 := kH (H0.out.trans m1)
  clear m1
  go_wp2_with fail
  refine ((CN.out l er) _ H1.out.st).mono ?_
  rintro e w2 ⟨rfl, m2⟩
  have HN := kH (HN.out.onl m2.2 HNZ.out)
  have H2 := kH (H1.out.trans m2)
  clear m2
  have HBHT : Hid (w2.heap.size ≠ K.b) := kH (by have := H2.out.st.lt; omega)
  have HN := kH (HN.out.alloc (.cells #[.int .i64 ((tk l)).k, .string ⟨((tk l)).t.toArray⟩, .int .i64 ((tk l)).a] 60))
  have HT := kH (BlkT.new w2 (tk l))
  have H2 := kH (H2.out.alloc (.cells #[.int .i64 ((tk l)).k, .string ⟨((tk l)).t.toArray⟩, .int .i64 ((tk l)).a] 60))
  have HR := kH (show Res (nmP l) l er (tk l) (nx l) er from by rw [HX.out]; exact Res.ret' HTL.out.nx.1 HTL.out.nx.2.1)
  unfold tokV
  go_wp2_with fail
  have HLT := kH HN.out.lt
  refine (CW.out _ _ _ H2.out.st).mono ?_
  rintro e w3 ⟨ts, ns, p, c, l1, er1, rfl, r3, m3, rw1, ln1⟩
  have HN := kH (HN.out.onl m3.2 HNZ.out)
  have HT := kH (HT.out.onl m3.2 HBHT.out)
  have HR3 := kH r3
  have HRW := kH (rw1.low (n1 := w.heap.size + 1) (by have := HLT.out; omega))
  have HNS : Hid (ns.length ≤ 5500) := kH (by have := HLN.out; have := HR.out.suf.length_le; omega)
  have HNT : Hid (∀ g, (Value.slice p ns.length c).ownBlock = some g → g ≠ w2.heap.size) := kH (fun g hg => by have := (rg_own_base rw1.own g hg).1; simp at this; omega)
  have H3 := kH (H2.out.trans m3)
  clear m3 r3 rw1 ln1
  go_wp2_with fail
  refine ((CNL.out l1 er1) _ H3.out.st).mono ?_
  rintro e w4 ⟨rfl, m4⟩
  have HN := kH (HN.out.onl m4.2 HNZ.out)
  have HT := kH (HT.out.onl m4.2 HBHT.out)
  have HRW := kH (HRW.out.onl m4.2 (by have := HK.out; omega))
  have H4 := kH (H3.out.trans m4)
  clear m4
  go_wp2_with fail
  have HLL : Hid (nlsP l1 <:+ l1) := kH (Tl.nls (show Tl l1 from HTL.out.suf (HR3.out.suf.trans HR.out.suf) HR3.out.ne)).1
  have HN := kH (HN.out.drew)
  have HT := kH (HT.out.drew)
  have HRW := kH (HRW.out.drew)
  have H4 := kH H4.out.drew
  refine wp_region_L (st := [7]) (S := fun Z => BlkT Z w2.heap.size (tk l)) (by kernel_rfl) (HT.out) (fun hHeld => ?_)
  generalize w4.drew = wd4 at *
  refine tkL 0 (v := ?_) rfl ?_ ?_
  rotate_left
  ·
   (intro w hSw; obtain ⟨d0, d1, d2, k0, k1, k2⟩ := BlkT.cells hSw; go_simp; try with_reducible rfl)
  try simp only [nrm]
  refine tkL 1 (v := ?_) rfl ?_ ?_
  rotate_left
  ·
   (intro w hSw; obtain ⟨d0, d1, d2, k0, k1, k2⟩ := BlkT.cells hSw; go_simp; try with_reducible rfl)
  try simp only [nrm]
  refine tkL 2 (v := ?_) rfl ?_ ?_
  rotate_left
  ·
   (intro w hSw; obtain ⟨d0, d1, d2, k0, k1, k2⟩ := BlkT.cells hSw; go_simp; try with_reducible rfl)
  try simp only [nrm]
  refine rdL 3 rfl (fun K2 hK => ?_)
  go_simp
  have HLT := kH HN.out.lt
  have HRV0 := HRW
  refine (CB.out _ _ _ H4.out.st).mono ?_
  rintro e w5 ⟨b, n, l2, er2, rfl, r5, m5, tr2⟩
  have HN := kH (HN.out.onl m5.2 HNZ.out)
  have HT := kH (HT.out.onl m5.2 HBHT.out)
  have HRW := kH (HRW.out.onl m5.2 (by have := HK.out; omega))
  have HR5 := kH r5
  have HT2 := kH tr2
  have HRV : Hid (∀ g, (Value.slice p ns.length c).ownBlock = some g → w.heap.size + 1 ≤ g ∧ g < wd4.heap.size) := kH (rg_own_base HRV0.out.own)
  have H5 := kH (H4.out.trans m5)
  clear m5 r5 tr2
  unfold An.val
  refine hK.out _ _ (HT.out) (fun hHeld => ?_)
  clear hK K2
  try simp only [nrm]
  refine rdL 4 rfl (fun K2 hK => ?_)
  go_simp
  refine hK.out _ _ (HT.out.alloc _) (fun hHeld => ?_)
  clear hK K2
  try simp only [nrm]
  refine rdL 5 rfl (fun K2 hK => ?_)
  rw [if_pos (by kernel_rfl)]
  have HOW := kH HRW.out.own
  refine wp_append_own_at (.tmp 24) (.tmp 27) 23 rfl (w.heap.size + 1) 25 i0 (.agg #[.string ⟨#[]⟩, .string ⟨#[]⟩, .int .i64 0, .slice none 0 0]) 4 64 Tryz.underlying23 hi hz0 hz1 hz2 rfl (by decide) (.slice p ns.length c) ns.length (anRow ns) rfl (HOW.out.alloc _) ⟨w5.heap.size, 0, none⟩ 1 1 (An.vals n) rfl rfl ?c1 ?c2 ?c3 ?c4 ?c5 ?_
  case c1 => exact an_new w5 n
  case c2 => simp [An.vals, Value.oneCell']
  case c3 => have := HNS.out; unfold maxLen; omega
  case c4 => have := HNS.out; omega
  case c5 => have := HN.out.lt; simp; omega
  intro v3 w9 hown hgrow _ hat
  rw [World.size_alloc] at hat
  obtain ⟨g3, c3, rfl, hc9⟩ := rg_own_succ hown
  have hA := RwA.app HRW.out HT2.out (fun g hg => (HRV.out g hg).2) (by have := HLT.out; omega) hgrow hat hown
  have hM := Mv.app H5.out HK.out (fun g hg => by have := (HRV.out g hg).1; omega) hgrow
  have hKp : ∀ k, k < w5.heap.size → (∀ g, (Value.slice p ns.length c).ownBlock = some g → g ≠ k) → w9.heap[k]? = w5.heap[k]? := fun k hk hne => (grown_at hgrow (by simp; omega) (fun e => hne _ e rfl)).trans (Below.heap_alloc w5 _ _ hk)
  have hN : BlkA w9 w.heap.size An.zero := (hKp _ HN.out.lt (fun g hg => by have := (HRV.out _ hg).1; omega)).trans HN.out
  have hT : BlkT w9 w2.heap.size (tk l) := (hKp _ HT.out.lt (fun g hg => (HNT.out g hg))).trans HT.out
  have hL : (ns ++ [n]).length = ns.length + 1 := by rw [List.length_append, List.length_singleton]
  have H9 := kH hM
  have HN := kH hN
  have HT := kH hT
  have HRW := kH hA
  have HL := kH hL
  clear hA hM hN hT hKp hL hown hgrow hat hc9 HOW HRV HRV0
  refine hK.out _ _ (HT.out) (fun hHeld => ?_)
  clear hK K2
  try simp only [nrm]
  refine rdL 6 rfl (fun K2 hK => ?_)
  go_simp
  refine (CM.out (bs oFunc) (tk l) _ _ _ _).mono ?_
  rintro e w10 ⟨rfl, hb10⟩
  have HRW := kH (HRW.out.below hb10)
  have HN := kH (HN.out.below hb10)
  have HT := kH (HT.out.below hb10)
  have H10 := kH (H9.out.below hb10)
  clear hb10
  unfold An.val
  refine hK.out _ _ (HT.out) (fun hHeld => ?_)
  clear hK K2
  try simp only
  have HTF : Hid (TreeP w10 (fun k => w.heap.size + 1 ≤ k) (named oFunc (tk l) (ts ++ [b])) ⟨bs oFunc, bs (tk l).t, (tk l).a, some ⟨g3, 0, none⟩, ns.length + 1, c3⟩) := kH (by
   have := RwA.node (by have := HRW.out; rw [← HL.out] at this; exact this) oFunc (tk l).t (tk l).a
   rw [HL.out] at this
   exact this)
  refine wpAnyL_ready (rs := [7]) (by kernel_rfl) (by simp) ?_
  refine AllReadyL.store (o := _) rfl (by decide) (by decide) (fun K2 hK => ?_) AllReadyL.nil
  obtain ⟨z0, z1, z2, z3, zk0, zk1, zk2, zk3⟩ := HN.out.cells
  go_simp
  refine hK.out _ _ ?_
  clear hK K2
  try simp only [nrm]
  refine wpAnyL_done (by kernel_rfl) ?_ _
  go_wp2_with fail
  exact bodyPost_ret (v := An.val ⟨bs oFunc, bs (tk l).t, (tk l).a, some ⟨g3, 0, none⟩, ns.length + 1, c3⟩) (by simp [results, Tryz.results41, go_sem, An.val, z0, z1, z2, z3] <;> rfl) rfl (NdPost.put (n := ⟨bs oFunc, bs (tk l).t, (tk l).a, some ⟨g3, 0, none⟩, ns.length + 1, c3⟩) (by rw [func_eq]; exact HR.out.bnd (HR3.out.bnd ((HR5.out.bnd (Res.ret HR5.out.ne)).pre HLL.out))) H10.out (HTF.out) HK.out)
 ·
  rw [decide_eq_false (show ¬ ((tk l).k : Int) = 5 from by omega)] at C5
  by_cases h6 : (tk l).k = 6
  ·
   have HX : Hid (nmP l = .ok (tk l, nx l)) := kH (by unfold nmP; rw [if_pos (.inr h6)])
   rw [decide_eq_true (show ((tk l).k : Int) = 6 from by omega)] at C6
   clear h5 h6
   go_enter Tryz.func41, Tryz.ntmps41
   go_wp2_with fail
   generalize w.alloc zN = w0 at *
   refine (C5.out _ H0.out.st).mono ?_
   rintro e w1 ⟨rfl, m1⟩
   have HN := kH (HN.out.onl m1.2 HNZ.out)
   have H1 := kH (H0.out.trans m1)
   clear m1
   go_wp2_with fail
   refine (C6.out _ H1.out.st).mono ?_
   rintro e w2 ⟨rfl, m2⟩
   have HN := kH (HN.out.onl m2.2 HNZ.out)
   have H2 := kH (H1.out.trans m2)
   clear m2
   go_wp2_with fail
   refine ((CN.out l er) _ H2.out.st).mono ?_
   rintro e w3 ⟨rfl, m3⟩
   have HN := kH (HN.out.onl m3.2 HNZ.out)
   have H3 := kH (H2.out.trans m3)
   clear m3
   have HBHT : Hid (w3.heap.size ≠ K.b) := kH (by have := H3.out.st.lt; omega)
   have HN := kH (HN.out.alloc (.cells #[.int .i64 ((tk l)).k, .string ⟨((tk l)).t.toArray⟩, .int .i64 ((tk l)).a] 60))
   have HT := kH (BlkT.new w3 (tk l))
   have H3 := kH (H3.out.alloc (.cells #[.int .i64 ((tk l)).k, .string ⟨((tk l)).t.toArray⟩, .int .i64 ((tk l)).a] 60))
   have HR := kH (show Res (nmP l) l er (tk l) (nx l) er from by rw [HX.out]; exact Res.ret' HTL.out.nx.1 HTL.out.nx.2.1)
   unfold tokV
   go_wp2_with fail
   have HLT := kH HN.out.lt
   refine (CW.out _ _ _ H3.out.st).mono ?_
   rintro e w4 ⟨ts, ns, p, c, l1, er1, rfl, r4, m4, rw1, ln1⟩
   have HN := kH (HN.out.onl m4.2 HNZ.out)
   have HT := kH (HT.out.onl m4.2 HBHT.out)
   have HR4 := kH r4
   have HRW := kH (rw1.low (n1 := w.heap.size + 1) (by have := HLT.out; omega))
   have HNS : Hid (ns.length ≤ 5500) := kH (by have := HLN.out; have := HR.out.suf.length_le; omega)
   have HNT : Hid (∀ g, (Value.slice p ns.length c).ownBlock = some g → g ≠ w3.heap.size) := kH (fun g hg => by have := (rg_own_base rw1.own g hg).1; simp at this; omega)
   have H4 := kH (H3.out.trans m4)
   clear m4 r4 rw1 ln1
   go_wp2_with fail
   refine ((CNL.out l1 er1) _ H4.out.st).mono ?_
   rintro e w5 ⟨rfl, m5⟩
   have HN := kH (HN.out.onl m5.2 HNZ.out)
   have HT := kH (HT.out.onl m5.2 HBHT.out)
   have HRW := kH (HRW.out.onl m5.2 (by have := HK.out; omega))
   have H5 := kH (H4.out.trans m5)
   clear m5
   go_wp2_with fail
   have HLL : Hid (nlsP l1 <:+ l1) := kH (Tl.nls (show Tl l1 from HTL.out.suf (HR4.out.suf.trans HR.out.suf) HR4.out.ne)).1
   have HN := kH (HN.out.drew)
   have HT := kH (HT.out.drew)
   have HRW := kH (HRW.out.drew)
   have H5 := kH H5.out.drew
   refine wp_region_L (st := [7]) (S := fun Z => BlkT Z w3.heap.size (tk l)) (by kernel_rfl) (HT.out) (fun hHeld => ?_)
   generalize w5.drew = wd5 at *
   refine tkL 0 (v := ?_) rfl ?_ ?_
   rotate_left
   ·
    (intro w hSw; obtain ⟨d0, d1, d2, k0, k1, k2⟩ := BlkT.cells hSw; go_simp; try with_reducible rfl)
   try simp only [nrm]
   refine tkL 1 (v := ?_) rfl ?_ ?_
   rotate_left
   ·
    (intro w hSw; obtain ⟨d0, d1, d2, k0, k1, k2⟩ := BlkT.cells hSw; go_simp; try with_reducible rfl)
   try simp only [nrm]
   refine tkL 2 (v := ?_) rfl ?_ ?_
   rotate_left
   ·
    (intro w hSw; obtain ⟨d0, d1, d2, k0, k1, k2⟩ := BlkT.cells hSw; go_simp; try with_reducible rfl)
   try simp only [nrm]
   refine rdL 3 rfl (fun K2 hK => ?_)
   go_simp
   have HLT := kH HN.out.lt
   have HRV0 := HRW
   refine (CB.out _ _ _ H5.out.st).mono ?_
   rintro e w6 ⟨b, n, l2, er2, rfl, r6, m6, tr2⟩
   have HN := kH (HN.out.onl m6.2 HNZ.out)
   have HT := kH (HT.out.onl m6.2 HBHT.out)
   have HRW := kH (HRW.out.onl m6.2 (by have := HK.out; omega))
   have HR6 := kH r6
   have HT2 := kH tr2
   have HRV : Hid (∀ g, (Value.slice p ns.length c).ownBlock = some g → w.heap.size + 1 ≤ g ∧ g < wd5.heap.size) := kH (rg_own_base HRV0.out.own)
   have H6 := kH (H5.out.trans m6)
   clear m6 r6 tr2
   unfold An.val
   refine hK.out _ _ (HT.out) (fun hHeld => ?_)
   clear hK K2
   try simp only [nrm]
   refine rdL 4 rfl (fun K2 hK => ?_)
   go_simp
   refine hK.out _ _ (HT.out.alloc _) (fun hHeld => ?_)
   clear hK K2
   try simp only [nrm]
   refine rdL 5 rfl (fun K2 hK => ?_)
   rw [if_pos (by kernel_rfl)]
   have HOW := kH HRW.out.own
   refine wp_append_own_at (.tmp 24) (.tmp 27) 23 rfl (w.heap.size + 1) 25 i0 (.agg #[.string ⟨#[]⟩, .string ⟨#[]⟩, .int .i64 0, .slice none 0 0]) 4 64 Tryz.underlying23 hi hz0 hz1 hz2 rfl (by decide) (.slice p ns.length c) ns.length (anRow ns) rfl (HOW.out.alloc _) ⟨w6.heap.size, 0, none⟩ 1 1 (An.vals n) rfl rfl ?c1 ?c2 ?c3 ?c4 ?c5 ?_
   case c1 => exact an_new w6 n
   case c2 => simp [An.vals, Value.oneCell']
   case c3 => have := HNS.out; unfold maxLen; omega
   case c4 => have := HNS.out; omega
   case c5 => have := HN.out.lt; simp; omega
   intro v3 w9 hown hgrow _ hat
   rw [World.size_alloc] at hat
   obtain ⟨g3, c3, rfl, hc9⟩ := rg_own_succ hown
   have hA := RwA.app HRW.out HT2.out (fun g hg => (HRV.out g hg).2) (by have := HLT.out; omega) hgrow hat hown
   have hM := Mv.app H6.out HK.out (fun g hg => by have := (HRV.out g hg).1; omega) hgrow
   have hKp : ∀ k, k < w6.heap.size → (∀ g, (Value.slice p ns.length c).ownBlock = some g → g ≠ k) → w9.heap[k]? = w6.heap[k]? := fun k hk hne => (grown_at hgrow (by simp; omega) (fun e => hne _ e rfl)).trans (Below.heap_alloc w6 _ _ hk)
   have hN : BlkA w9 w.heap.size An.zero := (hKp _ HN.out.lt (fun g hg => by have := (HRV.out _ hg).1; omega)).trans HN.out
   have hT : BlkT w9 w3.heap.size (tk l) := (hKp _ HT.out.lt (fun g hg => (HNT.out g hg))).trans HT.out
   have hL : (ns ++ [n]).length = ns.length + 1 := by rw [List.length_append, List.length_singleton]
   have H9 := kH hM
   have HN := kH hN
   have HT := kH hT
   have HRW := kH hA
   have HL := kH hL
   clear hA hM hN hT hKp hL hown hgrow hat hc9 HOW HRV HRV0
   refine hK.out _ _ (HT.out) (fun hHeld => ?_)
   clear hK K2
   try simp only [nrm]
   refine rdL 6 rfl (fun K2 hK => ?_)
   go_simp
   refine (CM.out (bs oFunc) (tk l) _ _ _ _).mono ?_
   rintro e w10 ⟨rfl, hb10⟩
   have HRW := kH (HRW.out.below hb10)
   have HN := kH (HN.out.below hb10)
   have HT := kH (HT.out.below hb10)
   have H10 := kH (H9.out.below hb10)
   clear hb10
   unfold An.val
   refine hK.out _ _ (HT.out) (fun hHeld => ?_)
   clear hK K2
   try simp only
   have HTF : Hid (TreeP w10 (fun k => w.heap.size + 1 ≤ k) (named oFunc (tk l) (ts ++ [b])) ⟨bs oFunc, bs (tk l).t, (tk l).a, some ⟨g3, 0, none⟩, ns.length + 1, c3⟩) := kH (by
    have := RwA.node (by have := HRW.out; rw [← HL.out] at this; exact this) oFunc (tk l).t (tk l).a
    rw [HL.out] at this
    exact this)
   refine wpAnyL_ready (rs := [7]) (by kernel_rfl) (by simp) ?_
   refine AllReadyL.store (o := _) rfl (by decide) (by decide) (fun K2 hK => ?_) AllReadyL.nil
   obtain ⟨z0, z1, z2, z3, zk0, zk1, zk2, zk3⟩ := HN.out.cells
   go_simp
   refine hK.out _ _ ?_
   clear hK K2
   try simp only [nrm]
   refine wpAnyL_done (by kernel_rfl) ?_ _
   go_wp2_with fail
   exact bodyPost_ret (v := An.val ⟨bs oFunc, bs (tk l).t, (tk l).a, some ⟨g3, 0, none⟩, ns.length + 1, c3⟩) (by simp [results, Tryz.results41, go_sem, An.val, z0, z1, z2, z3] <;> rfl) rfl (NdPost.put (n := ⟨bs oFunc, bs (tk l).t, (tk l).a, some ⟨g3, 0, none⟩, ns.length + 1, c3⟩) (by rw [func_eq]; exact HR.out.bnd (HR4.out.bnd ((HR6.out.bnd (Res.ret HR6.out.ne)).pre HLL.out))) H10.out (HTF.out) HK.out)
  ·
   have HX : Hid (nmP l = .error (refE l)) := kH (by unfold nmP; rw [if_neg (by omega)])
   rw [decide_eq_false (show ¬ ((tk l).k : Int) = 6 from by omega)] at C6
   clear h5 h6
   go_enter Tryz.func41, Tryz.ntmps41
   go_wp2_with fail
   generalize w.alloc zN = w0 at *
   refine (C5.out _ H0.out.st).mono ?_
   rintro e w1 ⟨rfl, m1⟩
   have HN := kH (HN.out.onl m1.2 HNZ.out)
   have H1 := kH (H0.out.trans m1)
   clear m1
   go_wp2_with fail
   refine (C6.out _ H1.out.st).mono ?_
   rintro e w2 ⟨rfl, m2⟩
   have HN := kH (HN.out.onl m2.2 HNZ.out)
   have H2 := kH (H1.out.trans m2)
   clear m2
   go_wp2_with fail
   refine (CX.out _ H2.out.st).mono ?_
   rintro e w3 ⟨rfl, m3⟩
   have HN := kH (HN.out.onl m3.2 HNZ.out)
   have H3 := kH (H2.out.trans m3)
   clear m3
   go_wp2_with fail
   refine ((CN.out (lst l) (some (er.getD (refE l)))) _ H3.out.st).mono ?_
   rintro e w4 ⟨rfl, m4⟩
   have HN := kH (HN.out.onl m4.2 HNZ.out)
   have H4 := kH (H3.out.trans m4)
   clear m4
   have HBHT : Hid (w4.heap.size ≠ K.b) := kH (by have := H4.out.st.lt; omega)
   have HN := kH (HN.out.alloc (.cells #[.int .i64 ((tk (lst l))).k, .string ⟨((tk (lst l))).t.toArray⟩, .int .i64 ((tk (lst l))).a] 60))
   have HT := kH (BlkT.new w4 (tk (lst l)))
   have H4 := kH (H4.out.alloc (.cells #[.int .i64 ((tk (lst l))).k, .string ⟨((tk (lst l))).t.toArray⟩, .int .i64 ((tk (lst l))).a] 60))
   have HR := kH (show Res (nmP l) l er (tk (lst l)) (nx (lst l)) (some (er.getD (refE l))) from Res.fail2 _ HTL.out HX.out)
   unfold tokV
   go_wp2_with fail
   have HLT := kH HN.out.lt
   refine (CW.out _ _ _ H4.out.st).mono ?_
   rintro e w5 ⟨ts, ns, p, c, l1, er1, rfl, r5, m5, rw1, ln1⟩
   have HN := kH (HN.out.onl m5.2 HNZ.out)
   have HT := kH (HT.out.onl m5.2 HBHT.out)
   have HR5 := kH r5
   have HRW := kH (rw1.low (n1 := w.heap.size + 1) (by have := HLT.out; omega))
   have HNS : Hid (ns.length ≤ 5500) := kH (by have := HLN.out; have := HR.out.suf.length_le; omega)
   have HNT : Hid (∀ g, (Value.slice p ns.length c).ownBlock = some g → g ≠ w4.heap.size) := kH (fun g hg => by have := (rg_own_base rw1.own g hg).1; simp at this; omega)
   have H5 := kH (H4.out.trans m5)
   clear m5 r5 rw1 ln1
   go_wp2_with fail
   refine ((CNL.out l1 er1) _ H5.out.st).mono ?_
   rintro e w6 ⟨rfl, m6⟩
   have HN := kH (HN.out.onl m6.2 HNZ.out)
   have HT := kH (HT.out.onl m6.2 HBHT.out)
   have HRW := kH (HRW.out.onl m6.2 (by have := HK.out; omega))
   have H6 := kH (H5.out.trans m6)
   clear m6
   go_wp2_with fail
   have HLL : Hid (nlsP l1 <:+ l1) := kH (Tl.nls (show Tl l1 from HTL.out.suf (HR5.out.suf.trans HR.out.suf) HR5.out.ne)).1
   have HN := kH (HN.out.drew)
   have HT := kH (HT.out.drew)
   have HRW := kH (HRW.out.drew)
   have H6 := kH H6.out.drew
   refine wp_region_L (st := [7]) (S := fun Z => BlkT Z w4.heap.size (tk (lst l))) (by kernel_rfl) (HT.out) (fun hHeld => ?_)
   generalize w6.drew = wd6 at *
   refine tkL 0 (v := ?_) rfl ?_ ?_
   rotate_left
   ·
    (intro w hSw; obtain ⟨d0, d1, d2, k0, k1, k2⟩ := BlkT.cells hSw; go_simp; try with_reducible rfl)
   try simp only [nrm]
   refine tkL 1 (v := ?_) rfl ?_ ?_
   rotate_left
   ·
    (intro w hSw; obtain ⟨d0, d1, d2, k0, k1, k2⟩ := BlkT.cells hSw; go_simp; try with_reducible rfl)
   try simp only [nrm]
   refine tkL 2 (v := ?_) rfl ?_ ?_
   rotate_left
   ·
    (intro w hSw; obtain ⟨d0, d1, d2, k0, k1, k2⟩ := BlkT.cells hSw; go_simp; try with_reducible rfl)
   try simp only [nrm]
   refine rdL 3 rfl (fun K2 hK => ?_)
   go_simp
   have HLT := kH HN.out.lt
   have HRV0 := HRW
   refine (CB.out _ _ _ H6.out.st).mono ?_
   rintro e w7 ⟨b, n, l2, er2, rfl, r7, m7, tr2⟩
   have HN := kH (HN.out.onl m7.2 HNZ.out)
   have HT := kH (HT.out.onl m7.2 HBHT.out)
   have HRW := kH (HRW.out.onl m7.2 (by have := HK.out; omega))
   have HR7 := kH r7
   have HT2 := kH tr2
   have HRV : Hid (∀ g, (Value.slice p ns.length c).ownBlock = some g → w.heap.size + 1 ≤ g ∧ g < wd6.heap.size) := kH (rg_own_base HRV0.out.own)
   have H7 := kH (H6.out.trans m7)
   clear m7 r7 tr2
   unfold An.val
   refine hK.out _ _ (HT.out) (fun hHeld => ?_)
   clear hK K2
   try simp only [nrm]
   refine rdL 4 rfl (fun K2 hK => ?_)
   go_simp
   refine hK.out _ _ (HT.out.alloc _) (fun hHeld => ?_)
   clear hK K2
   try simp only [nrm]
   refine rdL 5 rfl (fun K2 hK => ?_)
   rw [if_pos (by kernel_rfl)]
   have HOW := kH HRW.out.own
   refine wp_append_own_at (.tmp 24) (.tmp 27) 23 rfl (w.heap.size + 1) 25 i0 (.agg #[.string ⟨#[]⟩, .string ⟨#[]⟩, .int .i64 0, .slice none 0 0]) 4 64 Tryz.underlying23 hi hz0 hz1 hz2 rfl (by decide) (.slice p ns.length c) ns.length (anRow ns) rfl (HOW.out.alloc _) ⟨w7.heap.size, 0, none⟩ 1 1 (An.vals n) rfl rfl ?c1 ?c2 ?c3 ?c4 ?c5 ?_
   case c1 => exact an_new w7 n
   case c2 => simp [An.vals, Value.oneCell']
   case c3 => have := HNS.out; unfold maxLen; omega
   case c4 => have := HNS.out; omega
   case c5 => have := HN.out.lt; simp; omega
   intro v3 w9 hown hgrow _ hat
   rw [World.size_alloc] at hat
   obtain ⟨g3, c3, rfl, hc9⟩ := rg_own_succ hown
   have hA := RwA.app HRW.out HT2.out (fun g hg => (HRV.out g hg).2) (by have := HLT.out; omega) hgrow hat hown
   have hM := Mv.app H7.out HK.out (fun g hg => by have := (HRV.out g hg).1; omega) hgrow
   have hKp : ∀ k, k < w7.heap.size → (∀ g, (Value.slice p ns.length c).ownBlock = some g → g ≠ k) → w9.heap[k]? = w7.heap[k]? := fun k hk hne => (grown_at hgrow (by simp; omega) (fun e => hne _ e rfl)).trans (Below.heap_alloc w7 _ _ hk)
   have hN : BlkA w9 w.heap.size An.zero := (hKp _ HN.out.lt (fun g hg => by have := (HRV.out _ hg).1; omega)).trans HN.out
   have hT : BlkT w9 w4.heap.size (tk (lst l)) := (hKp _ HT.out.lt (fun g hg => (HNT.out g hg))).trans HT.out
   have hL : (ns ++ [n]).length = ns.length + 1 := by rw [List.length_append, List.length_singleton]
   have H9 := kH hM
   have HN := kH hN
   have HT := kH hT
   have HRW := kH hA
   have HL := kH hL
   clear hA hM hN hT hKp hL hown hgrow hat hc9 HOW HRV HRV0
   refine hK.out _ _ (HT.out) (fun hHeld => ?_)
   clear hK K2
   try simp only [nrm]
   refine rdL 6 rfl (fun K2 hK => ?_)
   go_simp
   refine (CM.out (bs oFunc) (tk (lst l)) _ _ _ _).mono ?_
   rintro e w10 ⟨rfl, hb10⟩
   have HRW := kH (HRW.out.below hb10)
   have HN := kH (HN.out.below hb10)
   have HT := kH (HT.out.below hb10)
   have H10 := kH (H9.out.below hb10)
   clear hb10
   unfold An.val
   refine hK.out _ _ (HT.out) (fun hHeld => ?_)
   clear hK K2
   try simp only
   have HTF : Hid (TreeP w10 (fun k => w.heap.size + 1 ≤ k) (named oFunc (tk (lst l)) (ts ++ [b])) ⟨bs oFunc, bs (tk (lst l)).t, (tk (lst l)).a, some ⟨g3, 0, none⟩, ns.length + 1, c3⟩) := kH (by
    have := RwA.node (by have := HRW.out; rw [← HL.out] at this; exact this) oFunc (tk (lst l)).t (tk (lst l)).a
    rw [HL.out] at this
    exact this)
   refine wpAnyL_ready (rs := [7]) (by kernel_rfl) (by simp) ?_
   refine AllReadyL.store (o := _) rfl (by decide) (by decide) (fun K2 hK => ?_) AllReadyL.nil
   obtain ⟨z0, z1, z2, z3, zk0, zk1, zk2, zk3⟩ := HN.out.cells
   go_simp
   refine hK.out _ _ ?_
   clear hK K2
   try simp only [nrm]
   refine wpAnyL_done (by kernel_rfl) ?_ _
   go_wp2_with fail
   exact bodyPost_ret (v := An.val ⟨bs oFunc, bs (tk (lst l)).t, (tk (lst l)).a, some ⟨g3, 0, none⟩, ns.length + 1, c3⟩) (by simp [results, Tryz.results41, go_sem, An.val, z0, z1, z2, z3] <;> rfl) rfl (NdPost.put (n := ⟨bs oFunc, bs (tk (lst l)).t, (tk (lst l)).a, some ⟨g3, 0, none⟩, ns.length + 1, c3⟩) (by rw [func_eq]; exact HR.out.bnd (HR5.out.bnd ((HR7.out.bnd (Res.ret HR7.out.ne)).pre HLL.out))) H10.out (HTF.out) HK.out)
end Go.Proofs.YtmbfdkiejneheaaGreatDoor
