/-
 CONTRACTS of layer 13's rel.
-/
import Derived.Test.YtmbfdkiejneheaaGreatDoorPaWB
namespace Go.Proofs.YtmbfdkiejneheaaGreatDoor
open Go.RowKit

set_option maxHeartbeats 8000000 in
set_option maxRecDepth 100000 in
theorem prel_any {reOk : List UInt8 → Bool} {K : Ps} {m : Nat} (HRe : ReOk reOk) (IE : OkE reOk K m 59 fun R pr => R.E pr) (IP : OkN reOk K m 124 fun R _ => primP reOk R) (IU : OkN reOk K m 119 fun R _ => unaryP reOk R) (dp : Nat) (pr : Bool) (l : List Tok) (er : ErO) (w : World) (hd : DpOk dp l) (hl : l.length ≤ m) (h : Pst w K l dp pr er) :
  Calls Tryz.prog 117 #[.pointer (some ⟨K.b, 0, none⟩)] w (NdPost K w w.heap.size l (relP reOk (rcP reOk (50 - dp)) pr l) dp pr er) := by
 have CE := kH fun W hW => pside_any HRe IE IP IU dp pr l er W hd hl hW
 have CG := kH fun l1 er1 W (hs : l1 <:+ l) hW => pside_any HRe IE IP IU dp pr l1 er1 W (hd.suf hs (Pst.ne hW)) (Nat.le_trans hs.length_le hl) hW
 have CF := kH fun l1 er1 => pfix_any K l1 dp pr er1
 have CN := kH fun l1 er1 => pnext_any K l1 dp pr er1
 have CB := kH fun s W => pbin_any s W
 have CM := kH fun o p n c W => pnode_any o p n c W
 have HK : Hid (K.b < w.heap.size ∧ K.g < w.heap.size) := kH ⟨h.lt, h.glt⟩
 have HNZ : Hid (w.heap.size ≠ K.b) := kH (by have := HK.out; omega)
 have HN := kH (BlkA.new0 w)
 have H0 := kH ((Mv.refl h).alloc zN)
 have HSZ : Hid (w.heap.size + 1 = (w.alloc zN).heap.size) := kH (by simp)
 clear HRe IE IP IU hd hl h
 go_enter Tryz.func117, Tryz.ntmps117
 go_wp2_with fail
 generalize w.alloc zN = w0 at *
 have HLT := kH HN.out.lt
 refine (CE.out _ H0.out.st).mono ?_
 rintro e w1 ⟨t, n, l1, er1, rfl, r1, m1, tr1⟩
 have HN := kH (HN.out.onl m1.2 HNZ.out)
 have HR1 := kH r1
 have HT1 := kH (tr1.low (B1 := w.heap.size + 1) (by have := HLT.out; omega))
 have H1 := kH (H0.out.trans m1)
 clear m1 r1 tr1
 unfold An.val
 have HBHV : Hid (w1.heap.size ≠ K.b) := kH (by have := H1.out.st.lt; omega)
 have HN := kH (HN.out.alloc (nB n))
 have HT1 := kH (HT1.out.below ((Below.refl _ _).alloc (Nat.le_refl _) (nB n)))
 have HV := kH (BlkA.new w1 n)
 have H1 := kH (H1.out.alloc (nB n))
 have gN : w1.heap.size = w1.heap.size := rfl
 clear gN
 go_wp2_with fail
 have CF := kH (CF.out l1 er1)
 have CN := kH (CN.out l1 er1)
 generalize hS : fx l1 = S at *
 refine (CF.out _ H1.out.st).mono ?_
 rintro e w2 ⟨rfl, m2⟩
 have HN := kH (HN.out.onl m2.2 HNZ.out)
 have HT1 := kH (HT1.out.onl m2.2 (by have := HK.out; omega))
 have HV := kH (HV.out.onl m2.2 HBHV.out)
 have H2 := kH (H1.out.trans m2)
 clear m2
 have HNX := kH H2.out.st.tll.nx
 obtain ⟨v0, v1, v2, v3, vk0, vk1, vk2, vk3⟩ := HV.out.cells
 by_cases h0 : S = [60]
 ·
  subst h0
  have HX : Hid (relB pr (fx l1) = true) := kH (by rw [hS]; rfl)
  have HS := kH hS
  clear hS
  go_wp2_with fail
  refine (CN.out _ H2.out.st).mono ?_
  rintro e w3 ⟨rfl, m3⟩
  have HN := kH (HN.out.onl m3.2 HNZ.out)
  have HT1 := kH (HT1.out.onl m3.2 (by have := HK.out; omega))
  have HV := kH (HV.out.onl m3.2 HBHV.out)
  have H3 := kH (H2.out.trans m3)
  clear m3
  unfold tokV
  go_wp2_with fail
  have HN := kH (HN.out.drew)
  have HT1 := kH (HT1.out.drew)
  have HV := kH (HV.out.drew)
  have H3 := kH H3.out.drew
  refine wp_region_L (st := [7]) (S := fun Z => BlkA Z w1.heap.size n) (by kernel_rfl) (HV.out) (fun hHeld => ?_)
  generalize w3.drew = wd3 at *
  refine tkL 0 (v := ?_) rfl ?_ ?_
  rotate_left
  ·
   (intro w hSw; obtain ⟨d0, d1, d2, d3, dk0, dk1, dk2, dk3⟩ := BlkA.cells hSw; go_simp; try with_reducible rfl)
  try simp only [nrm]
  refine tkL 2 (v := ?_) rfl ?_ ?_
  rotate_left
  ·
   (intro w hSw; obtain ⟨d0, d1, d2, d3, dk0, dk1, dk2, dk3⟩ := BlkA.cells hSw; go_simp; try with_reducible rfl)
  try simp only [nrm]
  refine tkL 3 (v := ?_) rfl ?_ ?_
  rotate_left
  ·
   (intro w hSw; obtain ⟨d0, d1, d2, d3, dk0, dk1, dk2, dk3⟩ := BlkA.cells hSw; go_simp; try with_reducible rfl)
  try simp only [nrm]
  refine rdL 1 rfl (fun K2 hK => ?_)
  go_simp
  refine (CB.out [60] _).mono ?_
  rintro e w9 ⟨rfl, rfl⟩
  refine hK.out _ _ (HV.out) (fun hHeld => ?_)
  clear hK K2
  try simp only [nrm]
  refine rdL 4 rfl (fun K2 hK => ?_)
  go_simp
  have HLT := kH HN.out.lt
  refine (CG.out _ _ _ (HNX.out.1.trans HR1.out.suf) H3.out.st).mono ?_
  rintro e w4 ⟨u, m, l5, er5, rfl, r4, m4, tu⟩
  have HN := kH (HN.out.onl m4.2 HNZ.out)
  have HT1 := kH (HT1.out.onl m4.2 (by have := HK.out; omega))
  have HV := kH (HV.out.onl m4.2 HBHV.out)
  have HR4 := kH r4
  have HU := kH (tu.low (B1 := w.heap.size + 1) (by have := HLT.out; omega))
  have H4 := kH (H3.out.trans m4)
  clear m4 r4 tu
  unfold An.val
  refine hK.out _ _ (HV.out) (fun hHeld => ?_)
  clear hK K2
  try simp only [nrm]
  have HTW := kH (TreeP.two (w := w4) HT1.out HU.out (by have := HN.out.lt; omega) (binO [60]))
  refine rdL 5 rfl (fun K2 hK => ?_)
  go_simp
  have HN := kH (HN.out.alloc (nB2 n m))
  have HT1 := kH (HT1.out.below ((Below.refl _ _).alloc (Nat.le_refl _) (nB2 n m)))
  have HV := kH (HV.out.alloc (nB2 n m))
  have H4 := kH (H4.out.alloc (nB2 n m))
  refine hK.out _ _ (HV.out) (fun hHeld => ?_)
  clear hK K2
  try simp only [nrm]
  refine rdL 6 rfl (fun K2 hK => ?_)
  go_simp
  refine (CM.out _ _ _ _ _).mono ?_
  rintro e w5 ⟨rfl, hb5⟩
  have HN := kH (HN.out.below hb5)
  have HT1 := kH (HT1.out.below hb5)
  have HV := kH (HV.out.below hb5)
  have HTW := kH (HTW.out.below hb5)
  have H5 := kH (H4.out.below hb5)
  clear hb5
  unfold An.val
  refine hK.out _ _ (HV.out) (fun hHeld => ?_)
  clear hK K2
  try simp only
  refine wpAnyL_ready (rs := [7]) (by kernel_rfl) (by simp) ?_
  refine AllReadyL.store (o := _) rfl (by decide) (by decide) (fun K2 hK => ?_) AllReadyL.nil
  obtain ⟨z0, z1, z2, z3, zk0, zk1, zk2, zk3⟩ := HN.out.cells
  go_simp
  refine hK.out _ _ ?_
  clear hK K2
  try simp only [nrm]
  refine wpAnyL_done (by kernel_rfl) ?_ _
  go_wp2_with fail
  exact bodyPost_ret (v := An.val ⟨bs (binO [60]), ⟨#[]⟩, 0, some ⟨w4.heap.size, 0, none⟩, 2, 2⟩) (by simp [results, Tryz.results117, go_sem, An.val, z0, z1, z2, z3] <;> rfl) rfl (NdPost.put (n := ⟨bs (binO [60]), ⟨#[]⟩, 0, some ⟨w4.heap.size, 0, none⟩, 2, 2⟩) (by unfold relP; exact HR1.out.bnd (by rw [if_pos HX.out, HS.out]; exact (HR4.out.bnd (Res.ret HR4.out.ne)).pre HNX.out.1)) H5.out (HTW.out) HK.out)
 ·
  by_cases h1 : S = [60, 61]
  ·
   subst h1
   clear h0
   have HX : Hid (relB pr (fx l1) = true) := kH (by rw [hS]; rfl)
   have HS := kH hS
   clear hS
   go_wp2_with fail
   refine (CN.out _ H2.out.st).mono ?_
   rintro e w3 ⟨rfl, m3⟩
   have HN := kH (HN.out.onl m3.2 HNZ.out)
   have HT1 := kH (HT1.out.onl m3.2 (by have := HK.out; omega))
   have HV := kH (HV.out.onl m3.2 HBHV.out)
   have H3 := kH (H2.out.trans m3)
   clear m3
   unfold tokV
   go_wp2_with fail
   have HN := kH (HN.out.drew)
   have HT1 := kH (HT1.out.drew)
   have HV := kH (HV.out.drew)
   have H3 := kH H3.out.drew
   refine wp_region_L (st := [7]) (S := fun Z => BlkA Z w1.heap.size n) (by kernel_rfl) (HV.out) (fun hHeld => ?_)
   generalize w3.drew = wd3 at *
   refine tkL 0 (v := ?_) rfl ?_ ?_
   rotate_left
   ·
    (intro w hSw; obtain ⟨d0, d1, d2, d3, dk0, dk1, dk2, dk3⟩ := BlkA.cells hSw; go_simp; try with_reducible rfl)
   try simp only [nrm]
   refine tkL 2 (v := ?_) rfl ?_ ?_
   rotate_left
   ·
    (intro w hSw; obtain ⟨d0, d1, d2, d3, dk0, dk1, dk2, dk3⟩ := BlkA.cells hSw; go_simp; try with_reducible rfl)
   try simp only [nrm]
   refine tkL 3 (v := ?_) rfl ?_ ?_
   rotate_left
   ·
    (intro w hSw; obtain ⟨d0, d1, d2, d3, dk0, dk1, dk2, dk3⟩ := BlkA.cells hSw; go_simp; try with_reducible rfl)
   try simp only [nrm]
   refine rdL 1 rfl (fun K2 hK => ?_)
   go_simp
   refine (CB.out [60, 61] _).mono ?_
   rintro e w9 ⟨rfl, rfl⟩
   refine hK.out _ _ (HV.out) (fun hHeld => ?_)
   clear hK K2
   try simp only [nrm]
   refine rdL 4 rfl (fun K2 hK => ?_)
   go_simp
   have HLT := kH HN.out.lt
   refine (CG.out _ _ _ (HNX.out.1.trans HR1.out.suf) H3.out.st).mono ?_
   rintro e w4 ⟨u, m, l5, er5, rfl, r4, m4, tu⟩
   have HN := kH (HN.out.onl m4.2 HNZ.out)
   have HT1 := kH (HT1.out.onl m4.2 (by have := HK.out; omega))
   have HV := kH (HV.out.onl m4.2 HBHV.out)
   have HR4 := kH r4
   have HU := kH (tu.low (B1 := w.heap.size + 1) (by have := HLT.out; omega))
   have H4 := kH (H3.out.trans m4)
   clear m4 r4 tu
   unfold An.val
   refine hK.out _ _ (HV.out) (fun hHeld => ?_)
   clear hK K2
   try simp only [nrm]
   have HTW := kH (TreeP.two (w := w4) HT1.out HU.out (by have := HN.out.lt; omega) (binO [60, 61]))
   refine rdL 5 rfl (fun K2 hK => ?_)
   go_simp
   have HN := kH (HN.out.alloc (nB2 n m))
   have HT1 := kH (HT1.out.below ((Below.refl _ _).alloc (Nat.le_refl _) (nB2 n m)))
   have HV := kH (HV.out.alloc (nB2 n m))
   have H4 := kH (H4.out.alloc (nB2 n m))
   refine hK.out _ _ (HV.out) (fun hHeld => ?_)
   clear hK K2
   try simp only [nrm]
   refine rdL 6 rfl (fun K2 hK => ?_)
   go_simp
   refine (CM.out _ _ _ _ _).mono ?_
   rintro e w5 ⟨rfl, hb5⟩
   have HN := kH (HN.out.below hb5)
   have HT1 := kH (HT1.out.below hb5)
   have HV := kH (HV.out.below hb5)
   have HTW := kH (HTW.out.below hb5)
   have H5 := kH (H4.out.below hb5)
   clear hb5
   unfold An.val
   refine hK.out _ _ (HV.out) (fun hHeld => ?_)
   clear hK K2
   try simp only
   refine wpAnyL_ready (rs := [7]) (by kernel_rfl) (by simp) ?_
   refine AllReadyL.store (o := _) rfl (by decide) (by decide) (fun K2 hK => ?_) AllReadyL.nil
   obtain ⟨z0, z1, z2, z3, zk0, zk1, zk2, zk3⟩ := HN.out.cells
   go_simp
   refine hK.out _ _ ?_
   clear hK K2
   try simp only [nrm]
   refine wpAnyL_done (by kernel_rfl) ?_ _
   go_wp2_with fail
   exact bodyPost_ret (v := An.val ⟨bs (binO [60, 61]), ⟨#[]⟩, 0, some ⟨w4.heap.size, 0, none⟩, 2, 2⟩) (by simp [results, Tryz.results117, go_sem, An.val, z0, z1, z2, z3] <;> rfl) rfl (NdPost.put (n := ⟨bs (binO [60, 61]), ⟨#[]⟩, 0, some ⟨w4.heap.size, 0, none⟩, 2, 2⟩) (by unfold relP; exact HR1.out.bnd (by rw [if_pos HX.out, HS.out]; exact (HR4.out.bnd (Res.ret HR4.out.ne)).pre HNX.out.1)) H5.out (HTW.out) HK.out)
  ·
   by_cases h2 : S = [61, 61]
   ·
    subst h2
    clear h0 h1
    have HX : Hid (relB pr (fx l1) = true) := kH (by rw [hS]; rfl)
    have HS := kH hS
    clear hS
    go_wp2_with fail
    refine (CN.out _ H2.out.st).mono ?_
    rintro e w3 ⟨rfl, m3⟩
    have HN := kH (HN.out.onl m3.2 HNZ.out)
    have HT1 := kH (HT1.out.onl m3.2 (by have := HK.out; omega))
    have HV := kH (HV.out.onl m3.2 HBHV.out)
    have H3 := kH (H2.out.trans m3)
    clear m3
    unfold tokV
    go_wp2_with fail
    have HN := kH (HN.out.drew)
    have HT1 := kH (HT1.out.drew)
    have HV := kH (HV.out.drew)
    have H3 := kH H3.out.drew
    refine wp_region_L (st := [7]) (S := fun Z => BlkA Z w1.heap.size n) (by kernel_rfl) (HV.out) (fun hHeld => ?_)
    generalize w3.drew = wd3 at *
    refine tkL 0 (v := ?_) rfl ?_ ?_
    rotate_left
    ·
     (intro w hSw; obtain ⟨d0, d1, d2, d3, dk0, dk1, dk2, dk3⟩ := BlkA.cells hSw; go_simp; try with_reducible rfl)
    try simp only [nrm]
    refine tkL 2 (v := ?_) rfl ?_ ?_
    rotate_left
    ·
     (intro w hSw; obtain ⟨d0, d1, d2, d3, dk0, dk1, dk2, dk3⟩ := BlkA.cells hSw; go_simp; try with_reducible rfl)
    try simp only [nrm]
    refine tkL 3 (v := ?_) rfl ?_ ?_
    rotate_left
    ·
     (intro w hSw; obtain ⟨d0, d1, d2, d3, dk0, dk1, dk2, dk3⟩ := BlkA.cells hSw; go_simp; try with_reducible rfl)
    try simp only [nrm]
    refine rdL 1 rfl (fun K2 hK => ?_)
    go_simp
    refine (CB.out [61, 61] _).mono ?_
    rintro e w9 ⟨rfl, rfl⟩
    refine hK.out _ _ (HV.out) (fun hHeld => ?_)
    clear hK K2
    try simp only [nrm]
    refine rdL 4 rfl (fun K2 hK => ?_)
    go_simp
    have HLT := kH HN.out.lt
    refine (CG.out _ _ _ (HNX.out.1.trans HR1.out.suf) H3.out.st).mono ?_
    rintro e w4 ⟨u, m, l5, er5, rfl, r4, m4, tu⟩
    have HN := kH (HN.out.onl m4.2 HNZ.out)
    have HT1 := kH (HT1.out.onl m4.2 (by have := HK.out; omega))
    have HV := kH (HV.out.onl m4.2 HBHV.out)
    have HR4 := kH r4
    have HU := kH (tu.low (B1 := w.heap.size + 1) (by have := HLT.out; omega))
    have H4 := kH (H3.out.trans m4)
    clear m4 r4 tu
    unfold An.val
    refine hK.out _ _ (HV.out) (fun hHeld => ?_)
    clear hK K2
    try simp only [nrm]
    have HTW := kH (TreeP.two (w := w4) HT1.out HU.out (by have := HN.out.lt; omega) (binO [61, 61]))
    refine rdL 5 rfl (fun K2 hK => ?_)
    go_simp
    have HN := kH (HN.out.alloc (nB2 n m))
    have HT1 := kH (HT1.out.below ((Below.refl _ _).alloc (Nat.le_refl _) (nB2 n m)))
    have HV := kH (HV.out.alloc (nB2 n m))
    have H4 := kH (H4.out.alloc (nB2 n m))
    refine hK.out _ _ (HV.out) (fun hHeld => ?_)
    clear hK K2
    try simp only [nrm]
    refine rdL 6 rfl (fun K2 hK => ?_)
    go_simp
    refine (CM.out _ _ _ _ _).mono ?_
    rintro e w5 ⟨rfl, hb5⟩
    have HN := kH (HN.out.below hb5)
    have HT1 := kH (HT1.out.below hb5)
    have HV := kH (HV.out.below hb5)
    have HTW := kH (HTW.out.below hb5)
    have H5 := kH (H4.out.below hb5)
    clear hb5
    unfold An.val
    refine hK.out _ _ (HV.out) (fun hHeld => ?_)
    clear hK K2
    try simp only
    refine wpAnyL_ready (rs := [7]) (by kernel_rfl) (by simp) ?_
    refine AllReadyL.store (o := _) rfl (by decide) (by decide) (fun K2 hK => ?_) AllReadyL.nil
    obtain ⟨z0, z1, z2, z3, zk0, zk1, zk2, zk3⟩ := HN.out.cells
    go_simp
    refine hK.out _ _ ?_
    clear hK K2
    try simp only [nrm]
    refine wpAnyL_done (by kernel_rfl) ?_ _
    go_wp2_with fail
    exact bodyPost_ret (v := An.val ⟨bs (binO [61, 61]), ⟨#[]⟩, 0, some ⟨w4.heap.size, 0, none⟩, 2, 2⟩) (by simp [results, Tryz.results117, go_sem, An.val, z0, z1, z2, z3] <;> rfl) rfl (NdPost.put (n := ⟨bs (binO [61, 61]), ⟨#[]⟩, 0, some ⟨w4.heap.size, 0, none⟩, 2, 2⟩) (by unfold relP; exact HR1.out.bnd (by rw [if_pos HX.out, HS.out]; exact (HR4.out.bnd (Res.ret HR4.out.ne)).pre HNX.out.1)) H5.out (HTW.out) HK.out)
   ·
    by_cases h3 : S = [33, 61]
    ·
     subst h3
     clear h0 h1 h2
     have HX : Hid (relB pr (fx l1) = true) := kH (by rw [hS]; rfl)
     have HS := kH hS
     clear hS
     go_wp2_with fail
     refine (CN.out _ H2.out.st).mono ?_
     rintro e w3 ⟨rfl, m3⟩
     have HN := kH (HN.out.onl m3.2 HNZ.out)
     have HT1 := kH (HT1.out.onl m3.2 (by have := HK.out; omega))
     have HV := kH (HV.out.onl m3.2 HBHV.out)
     have H3 := kH (H2.out.trans m3)
     clear m3
     unfold tokV
     go_wp2_with fail
     have HN := kH (HN.out.drew)
     have HT1 := kH (HT1.out.drew)
     have HV := kH (HV.out.drew)
     have H3 := kH H3.out.drew
     refine wp_region_L (st := [7]) (S := fun Z => BlkA Z w1.heap.size n) (by kernel_rfl) (HV.out) (fun hHeld => ?_)
     generalize w3.drew = wd3 at *
     refine tkL 0 (v := ?_) rfl ?_ ?_
     rotate_left
     ·
      (intro w hSw; obtain ⟨d0, d1, d2, d3, dk0, dk1, dk2, dk3⟩ := BlkA.cells hSw; go_simp; try with_reducible rfl)
     try simp only [nrm]
     refine tkL 2 (v := ?_) rfl ?_ ?_
     rotate_left
     ·
      (intro w hSw; obtain ⟨d0, d1, d2, d3, dk0, dk1, dk2, dk3⟩ := BlkA.cells hSw; go_simp; try with_reducible rfl)
     try simp only [nrm]
     refine tkL 3 (v := ?_) rfl ?_ ?_
     rotate_left
     ·
      (intro w hSw; obtain ⟨d0, d1, d2, d3, dk0, dk1, dk2, dk3⟩ := BlkA.cells hSw; go_simp; try with_reducible rfl)
     try simp only [nrm]
     refine rdL 1 rfl (fun K2 hK => ?_)
     go_simp
     refine (CB.out [33, 61] _).mono ?_
     rintro e w9 ⟨rfl, rfl⟩
     refine hK.out _ _ (HV.out) (fun hHeld => ?_)
     clear hK K2
     try simp only [nrm]
     refine rdL 4 rfl (fun K2 hK => ?_)
     go_simp
     have HLT := kH HN.out.lt
     refine (CG.out _ _ _ (HNX.out.1.trans HR1.out.suf) H3.out.st).mono ?_
     rintro e w4 ⟨u, m, l5, er5, rfl, r4, m4, tu⟩
     have HN := kH (HN.out.onl m4.2 HNZ.out)
     have HT1 := kH (HT1.out.onl m4.2 (by have := HK.out; omega))
     have HV := kH (HV.out.onl m4.2 HBHV.out)
     have HR4 := kH r4
     have HU := kH (tu.low (B1 := w.heap.size + 1) (by have := HLT.out; omega))
     have H4 := kH (H3.out.trans m4)
     clear m4 r4 tu
     unfold An.val
     refine hK.out _ _ (HV.out) (fun hHeld => ?_)
     clear hK K2
     try simp only [nrm]
     have HTW := kH (TreeP.two (w := w4) HT1.out HU.out (by have := HN.out.lt; omega) (binO [33, 61]))
     refine rdL 5 rfl (fun K2 hK => ?_)
     go_simp
     have HN := kH (HN.out.alloc (nB2 n m))
     have HT1 := kH (HT1.out.below ((Below.refl _ _).alloc (Nat.le_refl _) (nB2 n m)))
     have HV := kH (HV.out.alloc (nB2 n m))
     have H4 := kH (H4.out.alloc (nB2 n m))
     refine hK.out _ _ (HV.out) (fun hHeld => ?_)
     clear hK K2
     try simp only [nrm]
     refine rdL 6 rfl (fun K2 hK => ?_)
     go_simp
     refine (CM.out _ _ _ _ _).mono ?_
     rintro e w5 ⟨rfl, hb5⟩
     have HN := kH (HN.out.below hb5)
     have HT1 := kH (HT1.out.below hb5)
     have HV := kH (HV.out.below hb5)
     have HTW := kH (HTW.out.below hb5)
     have H5 := kH (H4.out.below hb5)
     clear hb5
     unfold An.val
     refine hK.out _ _ (HV.out) (fun hHeld => ?_)
     clear hK K2
     try simp only
     refine wpAnyL_ready (rs := [7]) (by kernel_rfl) (by simp) ?_
     refine AllReadyL.store (o := _) rfl (by decide) (by decide) (fun K2 hK => ?_) AllReadyL.nil
     obtain ⟨z0, z1, z2, z3, zk0, zk1, zk2, zk3⟩ := HN.out.cells
     go_simp
     refine hK.out _ _ ?_
     clear hK K2
     try simp only [nrm]
     refine wpAnyL_done (by kernel_rfl) ?_ _
     go_wp2_with fail
     exact bodyPost_ret (v := An.val ⟨bs (binO [33, 61]), ⟨#[]⟩, 0, some ⟨w4.heap.size, 0, none⟩, 2, 2⟩) (by simp [results, Tryz.results117, go_sem, An.val, z0, z1, z2, z3] <;> rfl) rfl (NdPost.put (n := ⟨bs (binO [33, 61]), ⟨#[]⟩, 0, some ⟨w4.heap.size, 0, none⟩, 2, 2⟩) (by unfold relP; exact HR1.out.bnd (by rw [if_pos HX.out, HS.out]; exact (HR4.out.bnd (Res.ret HR4.out.ne)).pre HNX.out.1)) H5.out (HTW.out) HK.out)
    ·
     by_cases h4 : S = [62, 61]
     ·
      subst h4
      clear h0 h1 h2 h3
      have HX : Hid (relB pr (fx l1) = true) := kH (by rw [hS]; rfl)
      have HS := kH hS
      clear hS
      go_wp2_with fail
      refine (CN.out _ H2.out.st).mono ?_
      rintro e w3 ⟨rfl, m3⟩
      have HN := kH (HN.out.onl m3.2 HNZ.out)
      have HT1 := kH (HT1.out.onl m3.2 (by have := HK.out; omega))
      have HV := kH (HV.out.onl m3.2 HBHV.out)
      have H3 := kH (H2.out.trans m3)
      clear m3
      unfold tokV
      go_wp2_with fail
      have HN := kH (HN.out.drew)
      have HT1 := kH (HT1.out.drew)
      have HV := kH (HV.out.drew)
      have H3 := kH H3.out.drew
      refine wp_region_L (st := [7]) (S := fun Z => BlkA Z w1.heap.size n) (by kernel_rfl) (HV.out) (fun hHeld => ?_)
      generalize w3.drew = wd3 at *
      refine tkL 0 (v := ?_) rfl ?_ ?_
      rotate_left
      ·
       (intro w hSw; obtain ⟨d0, d1, d2, d3, dk0, dk1, dk2, dk3⟩ := BlkA.cells hSw; go_simp; try with_reducible rfl)
      try simp only [nrm]
      refine tkL 2 (v := ?_) rfl ?_ ?_
      rotate_left
      ·
       (intro w hSw; obtain ⟨d0, d1, d2, d3, dk0, dk1, dk2, dk3⟩ := BlkA.cells hSw; go_simp; try with_reducible rfl)
      try simp only [nrm]
      refine tkL 3 (v := ?_) rfl ?_ ?_
      rotate_left
      ·
       (intro w hSw; obtain ⟨d0, d1, d2, d3, dk0, dk1, dk2, dk3⟩ := BlkA.cells hSw; go_simp; try with_reducible rfl)
      try simp only [nrm]
      refine rdL 1 rfl (fun K2 hK => ?_)
      go_simp
      refine (CB.out [62, 61] _).mono ?_
      rintro e w9 ⟨rfl, rfl⟩
      refine hK.out _ _ (HV.out) (fun hHeld => ?_)
      clear hK K2
      try simp only [nrm]
      refine rdL 4 rfl (fun K2 hK => ?_)
      go_simp
      have HLT := kH HN.out.lt
      refine (CG.out _ _ _ (HNX.out.1.trans HR1.out.suf) H3.out.st).mono ?_
      rintro e w4 ⟨u, m, l5, er5, rfl, r4, m4, tu⟩
      have HN := kH (HN.out.onl m4.2 HNZ.out)
      have HT1 := kH (HT1.out.onl m4.2 (by have := HK.out; omega))
      have HV := kH (HV.out.onl m4.2 HBHV.out)
      have HR4 := kH r4
      have HU := kH (tu.low (B1 := w.heap.size + 1) (by have := HLT.out; omega))
      have H4 := kH (H3.out.trans m4)
      clear m4 r4 tu
      unfold An.val
      refine hK.out _ _ (HV.out) (fun hHeld => ?_)
      clear hK K2
      try simp only [nrm]
      have HTW := kH (TreeP.two (w := w4) HT1.out HU.out (by have := HN.out.lt; omega) (binO [62, 61]))
      refine rdL 5 rfl (fun K2 hK => ?_)
      go_simp
      have HN := kH (HN.out.alloc (nB2 n m))
      have HT1 := kH (HT1.out.below ((Below.refl _ _).alloc (Nat.le_refl _) (nB2 n m)))
      have HV := kH (HV.out.alloc (nB2 n m))
      have H4 := kH (H4.out.alloc (nB2 n m))
      refine hK.out _ _ (HV.out) (fun hHeld => ?_)
      clear hK K2
      try simp only [nrm]
      refine rdL 6 rfl (fun K2 hK => ?_)
      go_simp
      refine (CM.out _ _ _ _ _).mono ?_
      rintro e w5 ⟨rfl, hb5⟩
      have HN := kH (HN.out.below hb5)
      have HT1 := kH (HT1.out.below hb5)
      have HV := kH (HV.out.below hb5)
      have HTW := kH (HTW.out.below hb5)
      have H5 := kH (H4.out.below hb5)
      clear hb5
      unfold An.val
      refine hK.out _ _ (HV.out) (fun hHeld => ?_)
      clear hK K2
      try simp only
      refine wpAnyL_ready (rs := [7]) (by kernel_rfl) (by simp) ?_
      refine AllReadyL.store (o := _) rfl (by decide) (by decide) (fun K2 hK => ?_) AllReadyL.nil
      obtain ⟨z0, z1, z2, z3, zk0, zk1, zk2, zk3⟩ := HN.out.cells
      go_simp
      refine hK.out _ _ ?_
      clear hK K2
      try simp only [nrm]
      refine wpAnyL_done (by kernel_rfl) ?_ _
      go_wp2_with fail
      exact bodyPost_ret (v := An.val ⟨bs (binO [62, 61]), ⟨#[]⟩, 0, some ⟨w4.heap.size, 0, none⟩, 2, 2⟩) (by simp [results, Tryz.results117, go_sem, An.val, z0, z1, z2, z3] <;> rfl) rfl (NdPost.put (n := ⟨bs (binO [62, 61]), ⟨#[]⟩, 0, some ⟨w4.heap.size, 0, none⟩, 2, 2⟩) (by unfold relP; exact HR1.out.bnd (by rw [if_pos HX.out, HS.out]; exact (HR4.out.bnd (Res.ret HR4.out.ne)).pre HNX.out.1)) H5.out (HTW.out) HK.out)
     ·
      by_cases hg : S = [62]
      ·
       subst hg
       clear h0 h1 h2 h3 h4
       cases pr with
       | true =>
        have HX : Hid (¬ relB true (fx l1) = true) := kH (by rw [hS]; decide)
        clear hS
        obtain ⟨c0, c1, c2, c3, c4, c5, f1, f2, f3, f4, f5⟩ := H2.out.st.rd.cells
        obtain ⟨z0, z1, z2, z3, zk0, zk1, zk2, zk3⟩ := HN.out.cells
        go_wp2_with fail
        exact bodyPost_ret (v := An.val n) (by simp [results, Tryz.results117, go_sem, An.val, z0, z1, z2, z3]) rfl (NdPost.put (n := n) (by unfold relP; exact HR1.out.bnd (by rw [if_neg HX.out]; exact Res.ret HR1.out.ne)) H2.out (HT1.out) HK.out)
       | false =>
        obtain ⟨c0, c1, c2, c3, c4, c5, f1, f2, f3, f4, f5⟩ := H2.out.st.rd.cells
        have HX : Hid (relB false (fx l1) = true) := kH (by rw [hS]; rfl)
        have HS := kH hS
        clear hS
        go_wp2_with fail
        refine (CN.out _ H2.out.st).mono ?_
        rintro e w3 ⟨rfl, m3⟩
        have HN := kH (HN.out.onl m3.2 HNZ.out)
        have HT1 := kH (HT1.out.onl m3.2 (by have := HK.out; omega))
        have HV := kH (HV.out.onl m3.2 HBHV.out)
        have H3 := kH (H2.out.trans m3)
        clear m3
        unfold tokV
        go_wp2_with fail
        have HN := kH (HN.out.drew)
        have HT1 := kH (HT1.out.drew)
        have HV := kH (HV.out.drew)
        have H3 := kH H3.out.drew
        refine wp_region_L (st := [7]) (S := fun Z => BlkA Z w1.heap.size n) (by kernel_rfl) (HV.out) (fun hHeld => ?_)
        generalize w3.drew = wd3 at *
        refine tkL 0 (v := ?_) rfl ?_ ?_
        rotate_left
        ·
         (intro w hSw; obtain ⟨d0, d1, d2, d3, dk0, dk1, dk2, dk3⟩ := BlkA.cells hSw; go_simp; try with_reducible rfl)
        try simp only [nrm]
        refine tkL 2 (v := ?_) rfl ?_ ?_
        rotate_left
        ·
         (intro w hSw; obtain ⟨d0, d1, d2, d3, dk0, dk1, dk2, dk3⟩ := BlkA.cells hSw; go_simp; try with_reducible rfl)
        try simp only [nrm]
        refine tkL 3 (v := ?_) rfl ?_ ?_
        rotate_left
        ·
         (intro w hSw; obtain ⟨d0, d1, d2, d3, dk0, dk1, dk2, dk3⟩ := BlkA.cells hSw; go_simp; try with_reducible rfl)
        try simp only [nrm]
        refine rdL 1 rfl (fun K2 hK => ?_)
        go_simp
        refine (CB.out [62] _).mono ?_
        rintro e w9 ⟨rfl, rfl⟩
        refine hK.out _ _ (HV.out) (fun hHeld => ?_)
        clear hK K2
        try simp only [nrm]
        refine rdL 4 rfl (fun K2 hK => ?_)
        go_simp
        have HLT := kH HN.out.lt
        refine (CG.out _ _ _ (HNX.out.1.trans HR1.out.suf) H3.out.st).mono ?_
        rintro e w4 ⟨u, m, l5, er5, rfl, r4, m4, tu⟩
        have HN := kH (HN.out.onl m4.2 HNZ.out)
        have HT1 := kH (HT1.out.onl m4.2 (by have := HK.out; omega))
        have HV := kH (HV.out.onl m4.2 HBHV.out)
        have HR4 := kH r4
        have HU := kH (tu.low (B1 := w.heap.size + 1) (by have := HLT.out; omega))
        have H4 := kH (H3.out.trans m4)
        clear m4 r4 tu
        unfold An.val
        refine hK.out _ _ (HV.out) (fun hHeld => ?_)
        clear hK K2
        try simp only [nrm]
        have HTW := kH (TreeP.two (w := w4) HT1.out HU.out (by have := HN.out.lt; omega) (binO [62]))
        refine rdL 5 rfl (fun K2 hK => ?_)
        go_simp
        have HN := kH (HN.out.alloc (nB2 n m))
        have HT1 := kH (HT1.out.below ((Below.refl _ _).alloc (Nat.le_refl _) (nB2 n m)))
        have HV := kH (HV.out.alloc (nB2 n m))
        have H4 := kH (H4.out.alloc (nB2 n m))
        refine hK.out _ _ (HV.out) (fun hHeld => ?_)
        clear hK K2
        try simp only [nrm]
        refine rdL 6 rfl (fun K2 hK => ?_)
        go_simp
        refine (CM.out _ _ _ _ _).mono ?_
        rintro e w5 ⟨rfl, hb5⟩
        have HN := kH (HN.out.below hb5)
        have HT1 := kH (HT1.out.below hb5)
        have HV := kH (HV.out.below hb5)
        have HTW := kH (HTW.out.below hb5)
        have H5 := kH (H4.out.below hb5)
        clear hb5
        unfold An.val
        refine hK.out _ _ (HV.out) (fun hHeld => ?_)
        clear hK K2
        try simp only
        refine wpAnyL_ready (rs := [7]) (by kernel_rfl) (by simp) ?_
        refine AllReadyL.store (o := _) rfl (by decide) (by decide) (fun K2 hK => ?_) AllReadyL.nil
        obtain ⟨z0, z1, z2, z3, zk0, zk1, zk2, zk3⟩ := HN.out.cells
        go_simp
        refine hK.out _ _ ?_
        clear hK K2
        try simp only [nrm]
        refine wpAnyL_done (by kernel_rfl) ?_ _
        go_wp2_with fail
        exact bodyPost_ret (v := An.val ⟨bs (binO [62]), ⟨#[]⟩, 0, some ⟨w4.heap.size, 0, none⟩, 2, 2⟩) (by simp [results, Tryz.results117, go_sem, An.val, z0, z1, z2, z3] <;> rfl) rfl (NdPost.put (n := ⟨bs (binO [62]), ⟨#[]⟩, 0, some ⟨w4.heap.size, 0, none⟩, 2, 2⟩) (by unfold relP; exact HR1.out.bnd (by rw [if_pos HX.out, HS.out]; exact (HR4.out.bnd (Res.ret HR4.out.ne)).pre HNX.out.1)) H5.out (HTW.out) HK.out)
      ·
       have HX : Hid (¬ relB pr (fx l1) = true) := kH (by rw [hS]; simp [relB, h0, h1, h2, h3, h4, hg])
       have g0 : (S == [60]) = false := by rw [beq_eq_false_iff_ne]; exact h0
       have g1 : (S == [60, 61]) = false := by rw [beq_eq_false_iff_ne]; exact h1
       have g2 : (S == [61, 61]) = false := by rw [beq_eq_false_iff_ne]; exact h2
       have g3 : (S == [33, 61]) = false := by rw [beq_eq_false_iff_ne]; exact h3
       have g4 : (S == [62, 61]) = false := by rw [beq_eq_false_iff_ne]; exact h4
       have g5 : (S == [62]) = false := by rw [beq_eq_false_iff_ne]; exact hg
       clear h0 h1 h2 h3 h4 hg hS
       obtain ⟨z0, z1, z2, z3, zk0, zk1, zk2, zk3⟩ := HN.out.cells
       go_wp2_with fail
       exact bodyPost_ret (v := An.val n) (by simp [results, Tryz.results117, go_sem, An.val, z0, z1, z2, z3]) rfl (NdPost.put (n := n) (by unfold relP; exact HR1.out.bnd (by rw [if_neg HX.out]; exact Res.ret HR1.out.ne)) H2.out (HT1.out) HK.out)
theorem cf_pmatch_any : ∀ xs w, (callFunc 117 xs).run Tryz.prog w = .ok (.enter 117 xs) w := fun _ _ => by kernel_rfl
set_option maxHeartbeats 8000000 in
set_option maxRecDepth 100000 in
theorem pmatch_any {reOk : List UInt8 → Bool} {K : Ps} {m : Nat} (HRe : ReOk reOk) (IE : OkE reOk K m 59 fun R pr => R.E pr) (IP : OkN reOk K m 124 fun R _ => primP reOk R) (IU : OkN reOk K m 119 fun R _ => unaryP reOk R) (dp : Nat) (pr : Bool) (l : List Tok) (er : ErO) (w : World) (hd : DpOk dp l) (hl : l.length ≤ m) (h : Pst w K l dp pr er) :
  Calls Tryz.prog 111 #[.pointer (some ⟨K.b, 0, none⟩)] w (NdPost K w w.heap.size l (matchP reOk (rcP reOk (50 - dp)) pr l) dp pr er) := by
 have CC := kH fun gs cs W hW hg hgs => pchain_any (K := K) (f := 117) (G := relP reOk (rcP reOk (50 - dp)) pr) (dp := dp) (pr := pr) (l := l) cf_pmatch_any (fun l1 er1 W1 hs h1 => prel_any HRe IE IP IU dp pr l1 er1 W1 (hd.suf hs h1.ne) (Nat.le_trans hs.length_le hl) h1) [[126], [33, 126]] (by decide) (by decide) gs cs er W hW hg hgs
 have HK : Hid (K.b < w.heap.size ∧ K.g < w.heap.size) := kH ⟨h.lt, h.glt⟩
 have HNZ : Hid (w.heap.size ≠ K.b) := kH (by have := HK.out; omega)
 have HN := kH (BlkA.new0 w)
 have H0 := kH ((Mv.refl h).alloc zN)
 have HSZ : Hid (w.heap.size + 1 = (w.alloc zN).heap.size) := kH (by simp)
 clear HRe IE IP IU hd hl h
 go_enter Tryz.func111, Tryz.ntmps111
 go_wp2_with fail
 generalize w.alloc zN = w0 at *
 have HSG : Hid (SgAt (w0.alloc (.cells #[.string ⟨#[126]⟩, .string ⟨#[33, 126]⟩] 9)) (w.heap.size + 1) [[126], [33, 126]]) := kH (HSZ.out ▸ ⟨by simp, fun j hj => by
  have hj2 : j < 2 := hj
  rcases j with _ | _ | j
  ·
   simp [go_sem, bs]
  ·
   simp [go_sem, bs]
  ·
   omega⟩)
 simp only [List.length_cons, List.length_nil, Nat.reduceAdd] at CC
 have HGK : Hid (w.heap.size + 1 ≠ K.b) := kH (by have := HK.out; omega)
 have HN := kH (HN.out.alloc (.cells #[.string ⟨#[126]⟩, .string ⟨#[33, 126]⟩] 9))
 have H0 := kH (H0.out.alloc (.cells #[.string ⟨#[126]⟩, .string ⟨#[33, 126]⟩] 9))
 have HLT := kH HN.out.lt
 refine (CC.out (w.heap.size + 1) 2 _ H0.out.st HSG.out HGK.out).mono ?_
 rintro e w1 ⟨t2, n2, l2, er2, rfl, r1, m1, tr2⟩
 have HN := kH (HN.out.onl m1.2 HNZ.out)
 have HR1 := kH r1
 have HT2 := kH (tr2.low (B1 := w.heap.size + 1) (by have := HLT.out; omega))
 have H1 := kH (H0.out.trans m1)
 clear m1 r1 tr2
 unfold An.val
 obtain ⟨z0, z1, z2, z3, zk0, zk1, zk2, zk3⟩ := HN.out.cells
 go_wp2_with fail
 exact bodyPost_ret (v := An.val n2) (by simp [results, Tryz.results111, go_sem, An.val, z0, z1, z2, z3]) rfl (NdPost.put (n := n2) (HR1.out) H1.out (HT2.out) HK.out)
end Go.Proofs.YtmbfdkiejneheaaGreatDoor
