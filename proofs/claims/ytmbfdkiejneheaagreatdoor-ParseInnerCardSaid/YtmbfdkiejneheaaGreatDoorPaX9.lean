/-
 CONTRACTS of layer 13's param, params, rule.
-/
import Derived.Test.YtmbfdkiejneheaaGreatDoorPaX8
namespace Go.Proofs.YtmbfdkiejneheaaGreatDoor
open Go.RowKit

theorem param_eq (l : List Tok) : paramP l = bnd (nameP l) fun t l2 => .ok (named [112, 97, 114, 97, 109] t [], l2) := by
 unfold paramP nameP
 split <;> rfl
set_option maxHeartbeats 8000000 in
set_option maxRecDepth 100000 in
theorem pparam_any (K : Ps) (dp : Nat) (pr : Bool) (l : List Tok) (er : ErO) (w : World) (h : Pst w K l dp pr er) :
  Calls Tryz.prog 74 #[.pointer (some ⟨K.b, 0, none⟩)] w (NdPost K w w.heap.size l (paramP l) dp pr er) := by
 rw [param_eq]
 have CN := kH fun W hW => pwname_any K l dp pr er W hW
 have CM := kH fun o t p n c W => pnamed_any o t p n c W
 have HK : Hid (K.b < w.heap.size ∧ K.g < w.heap.size) := kH ⟨h.lt, h.glt⟩
 have HNZ : Hid (w.heap.size ≠ K.b) := kH (by have := HK.out; omega)
 have HN := kH (BlkA.new0 w)
 have H0 := kH ((Mv.refl h).alloc zN)
 have HSZ : Hid (w.heap.size + 1 = (w.alloc zN).heap.size) := kH (by simp)
 clear h
 go_enter Tryz.func74, Tryz.ntmps74
 go_wp2_with fail
 generalize w.alloc zN = w0 at *
 have HLT := kH HN.out.lt
 refine (CN.out _ H0.out.st).mono ?_
 rintro e w1 ⟨t1, l1, er1, rfl, r1, m1⟩
 have HN := kH (HN.out.onl m1.2 HNZ.out)
 have HR1 := kH r1
 have H1 := kH (H0.out.trans m1)
 clear m1 r1
 unfold tokV
 go_wp2_with fail
 refine (CM.out _ t1 _ _ _ _).mono ?_
 rintro e w2 ⟨rfl, hb2⟩
 have HN := kH (HN.out.below hb2)
 have H2 := kH (H1.out.below hb2)
 clear hb2
 unfold An.val
 obtain ⟨z0, z1, z2, z3, zk0, zk1, zk2, zk3⟩ := HN.out.cells
 go_wp2_with fail
 exact bodyPost_ret (v := An.val ⟨bs [112, 97, 114, 97, 109], bs t1.t, t1.a, none, 0, 0⟩) (by simp [results, Tryz.results74, go_sem, An.val, z0, z1, z2, z3] <;> rfl) rfl (NdPost.put (n := ⟨bs [112, 97, 114, 97, 109], bs t1.t, t1.a, none, 0, 0⟩) (HR1.out.bnd (Res.ret HR1.out.ne)) H2.out ((RwA.nil _ _).named [112, 97, 114, 97, 109] t1) HK.out)
set_option maxHeartbeats 8000000 in
set_option maxRecDepth 100000 in
theorem pparams_any (K : Ps) (dp : Nat) (pr : Bool) (l : List Tok) (er : ErO) (w : World) (h : Pst w K l dp pr er) :
  Calls Tryz.prog 56 #[.pointer (some ⟨K.b, 0, none⟩)] w (RwPost K w l (argsP paramP l) dp pr er) := by
 have CR := kH fun W (hW : Pst W K l dp pr er) => prow_any (f := 74) cfP (G := paramP) (l := l) (fun l1 er1 W1 _ hw => pparam_any K dp pr l1 er1 W1 hw) er W hW
 have CC := kH (pcomes_any K l dp pr er [41])
 have H0 := kH (Mv.refl h)
 have HN := kH h.ne
 clear h
 unfold argsP
 by_cases hc : fx l = [41]
 ·
  rw [if_pos hc]
  rw [decide_eq_true hc] at CC
  clear hc CR
  go_enter Tryz.func56, Tryz.ntmps56
  go_wp2_with fail
  refine (CC.out _ H0.out.st).mono ?_
  rintro e w1 ⟨rfl, m1⟩
  have H1 := kH (H0.out.trans m1)
  clear m1
  go_wp2_with fail
  go_ret
  exact ⟨[], [], none, 0, l, er, rfl, Res.ret HN.out, H1.out, RwA.nil _ _, Nat.zero_le _⟩
 ·
  rw [if_neg hc]
  rw [decide_eq_false hc] at CC
  clear hc
  go_enter Tryz.func56, Tryz.ntmps56
  go_wp2_with fail
  refine (CC.out _ H0.out.st).mono ?_
  rintro e w1 ⟨rfl, m1⟩
  have H1 := kH (H0.out.trans m1)
  clear m1
  go_wp2_with fail
  refine (CR.out _ H1.out.st).mono ?_
  rintro e w2 ⟨ts, ns, p, c, l2, er2, rfl, r2, m2, rw2, ln2⟩
  have HE := kH (show RwPost K w l (row1 paramP l) dp pr er (.returned (.slice p ns.length c)) w2 from ⟨ts, ns, p, c, l2, er2, rfl, r2, H1.out.trans m2, rw2.low H1.out.2.size, ln2⟩)
  clear r2 m2 rw2 ln2
  go_wp2_with fail
  go_ret
  exact HE.out
def ruleP (reOk : List UInt8 → Bool) (l : List Tok) : TR PT := bnd ((rcP reOk 50).E false l) fun e l2 =>
  if fx l2 = [123] then bnd (blockP (stP reOk 50) l2) fun b l3 => .ok (nd oRule [e, b], l3)
  else if (tk l2).k = 1 ∨ (tk l2).k = 0 ∨ fx l2 = [59] then .ok (nd oRule [e, nd [100, 101, 102, 97, 117, 108, 116] []], l2) else .error (refE l2)
set_option maxHeartbeats 8000000 in
set_option maxRecDepth 100000 in
theorem prule_any {reOk : List UInt8 → Bool} {K : Ps} (HRe : ReOk reOk) (HS : ∀ m, OkS reOk K m) (l : List Tok) (er : ErO) (w : World) (h : Pst w K l 0 false er) :
  Calls Tryz.prog 42 #[.pointer (some ⟨K.b, 0, none⟩)] w (NdPost K w w.heap.size l (ruleP reOk l) 0 false er) := by
 have CE := kH fun W hW => pexpr_any' (K := K) HRe 0 false l er W (by decide) hW
 have CC := kH fun l1 er1 => pcomes_any K l1 0 false er1 [123]
 have CC2 := kH fun l1 er1 => pcomes_any K l1 0 false er1 [59]
 have CK := kH fun l1 er1 k => pkind_any K l1 0 false er1 k
 have CX := kH fun l1 er1 => prefuse_any K l1 0 false er1
 have CB := kH fun l1 er1 W hW => pblock_any (HS (l1.length + 1)) 0 l1 er1 W (by decide) (.inl (Nat.lt_succ_self _)) hW
 have CM := kH fun o p n c W => pnode_any o p n c W
 have HK : Hid (K.b < w.heap.size ∧ K.g < w.heap.size) := kH ⟨h.lt, h.glt⟩
 have HNZ : Hid (w.heap.size ≠ K.b) := kH (by have := HK.out; omega)
 have HN := kH (BlkA.new0 w)
 have H0 := kH ((Mv.refl h).alloc zN)
 have HSZ : Hid (w.heap.size + 1 = (w.alloc zN).heap.size) := kH (by simp)
 clear HRe HS h
 go_enter Tryz.func42, Tryz.ntmps42
 go_wp2_with fail
 generalize w.alloc zN = w0 at *
 have HLT := kH HN.out.lt
 refine (CE.out _ H0.out.st).mono ?_
 rintro e w1 ⟨t, n, l1, er1, rfl, r1, m1, tr1⟩
 have HN := kH (HN.out.onl m1.2 HNZ.out)
 have HR1 := kH r1
 have HT1 := kH (tr1.low (B1 := w.heap.size + 1) (by have := HLT.out; omega))
 have H1 := kH (H0.out.trans m1)
 clear m1 r1 tr1
 unfold An.val
 have HBHV : Hid (w1.heap.size ≠ K.b) := kH (by have := H1.out.st.lt; omega)
 have HN := kH (HN.out.alloc (nB n))
 have HT1 := kH (HT1.out.below ((Below.refl _ _).alloc (Nat.le_refl _) (nB n)))
 have HV := kH (BlkA.new w1 n)
 have H1 := kH (H1.out.alloc (nB n))
 go_wp2_with fail
 have CC := kH (CC.out l1 er1)
 by_cases hc : fx l1 = [123]
 ·
  have HC := kH hc
  rw [decide_eq_true hc] at CC
  clear hc
  refine (CC.out _ H1.out.st).mono ?_
  rintro e w2 ⟨rfl, m2⟩
  have HN := kH (HN.out.onl m2.2 HNZ.out)
  have HT1 := kH (HT1.out.onl m2.2 (by have := HK.out; omega))
  have HV := kH (HV.out.onl m2.2 HBHV.out)
  have H2 := kH (H1.out.trans m2)
  clear m2
  go_wp2_with fail
  have HN := kH (HN.out.drew)
  have HT1 := kH (HT1.out.drew)
  have HV := kH (HV.out.drew)
  have H2 := kH H2.out.drew
  refine wp_region_L (st := [5]) (S := fun Z => BlkA Z w1.heap.size n) (by kernel_rfl) (HV.out) (fun hHeld => ?_)
  generalize w2.drew = wd2 at *
  refine tkL 0 (v := ?_) rfl ?_ ?_
  rotate_left
  ·
   (intro w hSw; obtain ⟨d0, d1, d2, d3, dk0, dk1, dk2, dk3⟩ := BlkA.cells hSw; go_simp; try with_reducible rfl)
  try simp only [nrm]
  refine tkL 1 (v := ?_) rfl ?_ ?_
  rotate_left
  ·
   (intro w hSw; obtain ⟨d0, d1, d2, d3, dk0, dk1, dk2, dk3⟩ := BlkA.cells hSw; go_simp; try with_reducible rfl)
  try simp only [nrm]
  refine rdL 2 rfl (fun K2 hK => ?_)
  go_simp
  have HLT := kH HN.out.lt
  refine (CB.out _ _ _ H2.out.st).mono ?_
  rintro e w3 ⟨u, m, l5, er5, rfl, r3, m3, tu⟩
  have HN := kH (HN.out.onl m3.2 HNZ.out)
  have HT1 := kH (HT1.out.onl m3.2 (by have := HK.out; omega))
  have HV := kH (HV.out.onl m3.2 HBHV.out)
  have HR3 := kH r3
  have HU := kH (tu.low (B1 := w.heap.size + 1) (by have := HLT.out; omega))
  have H3 := kH (H2.out.trans m3)
  clear m3 r3 tu
  unfold An.val
  refine hK.out _ _ (HV.out) (fun hHeld => ?_)
  clear hK K2
  try simp only [nrm]
  have HTW := kH (TreeP.two (w := w3) HT1.out HU.out (by have := HN.out.lt; omega) oRule)
  refine rdL 3 rfl (fun K2 hK => ?_)
  go_simp
  have HN := kH (HN.out.alloc (nB2 n m))
  have HT1 := kH (HT1.out.below ((Below.refl _ _).alloc (Nat.le_refl _) (nB2 n m)))
  have HV := kH (HV.out.alloc (nB2 n m))
  have H3 := kH (H3.out.alloc (nB2 n m))
  refine hK.out _ _ (HV.out) (fun hHeld => ?_)
  clear hK K2
  try simp only [nrm]
  refine rdL 4 rfl (fun K2 hK => ?_)
  go_simp
  refine (CM.out _ _ _ _ _).mono ?_
  rintro e w4 ⟨rfl, hb4⟩
  have HN := kH (HN.out.below hb4)
  have HT1 := kH (HT1.out.below hb4)
  have HV := kH (HV.out.below hb4)
  have HTW := kH (HTW.out.below hb4)
  have H4 := kH (H3.out.below hb4)
  clear hb4
  unfold An.val
  refine hK.out _ _ (HV.out) (fun hHeld => ?_)
  clear hK K2
  try simp only
  refine wpAnyL_ready (rs := [5]) (by kernel_rfl) (by simp) ?_
  refine AllReadyL.store (o := _) rfl (by decide) (by decide) (fun K2 hK => ?_) AllReadyL.nil
  obtain ⟨z0, z1, z2, z3, zk0, zk1, zk2, zk3⟩ := HN.out.cells
  go_simp
  refine hK.out _ _ ?_
  clear hK K2
  try simp only [nrm]
  refine wpAnyL_done (by kernel_rfl) ?_ _
  go_wp2_with fail
  exact bodyPost_ret (v := An.val ⟨bs oRule, ⟨#[]⟩, 0, some ⟨w3.heap.size, 0, none⟩, 2, 2⟩) (by simp [results, Tryz.results42, go_sem, An.val, z0, z1, z2, z3] <;> rfl) rfl (NdPost.put (n := ⟨bs oRule, ⟨#[]⟩, 0, some ⟨w3.heap.size, 0, none⟩, 2, 2⟩) (by unfold ruleP; exact HR1.out.bnd (by rw [if_pos HC.out]; exact HR3.out.bnd (Res.ret HR3.out.ne))) H4.out (HTW.out) HK.out)
 ·
  have HC := kH hc
  rw [decide_eq_false hc] at CC
  clear hc
  refine (CC.out _ H1.out.st).mono ?_
  rintro e w2 ⟨rfl, m2⟩
  have HN := kH (HN.out.onl m2.2 HNZ.out)
  have HT1 := kH (HT1.out.onl m2.2 (by have := HK.out; omega))
  have HV := kH (HV.out.onl m2.2 HBHV.out)
  have H2 := kH (H1.out.trans m2)
  clear m2
  go_wp2_with fail
  have K1 := kH (CK.out l1 er1 1)
  have K0 := kH (CK.out l1 er1 0)
  have C2 := kH (CC2.out l1 er1)
  have CX := kH (CX.out l1 er1)
  by_cases h1 : (tk l1).k = 1
  ·
   have HX : Hid ((tk l1).k = 1 ∨ (tk l1).k = 0 ∨ fx l1 = [59]) := kH (.inl h1)
   rw [decide_eq_true (show ((tk l1).k : Int) = 1 from by omega)] at K1
   clear h1
   refine (K1.out _ H2.out.st).mono ?_
   rintro e w3 ⟨rfl, m3⟩
   have HN := kH (HN.out.onl m3.2 HNZ.out)
   have HT1 := kH (HT1.out.onl m3.2 (by have := HK.out; omega))
   have HV := kH (HV.out.onl m3.2 HBHV.out)
   have H3 := kH (H2.out.trans m3)
   clear m3
   go_wp2_with fail
   have HN := kH (HN.out.drew)
   have HT1 := kH (HT1.out.drew)
   have HV := kH (HV.out.drew)
   have H3 := kH H3.out.drew
   refine wp_region_L (st := [4]) (S := fun Z => BlkA Z w1.heap.size n) (by kernel_rfl) (HV.out) (fun hHeld => ?_)
   generalize w3.drew = wd3 at *
   refine tkL 0 (v := ?_) rfl ?_ ?_
   rotate_left
   ·
    (intro w hSw; obtain ⟨d0, d1, d2, d3, dk0, dk1, dk2, dk3⟩ := BlkA.cells hSw; go_simp; try with_reducible rfl)
   try simp only [nrm]
   refine rdL 1 rfl (fun K2 hK => ?_)
   go_simp
   refine (CM.out (bs [100, 101, 102, 97, 117, 108, 116]) none 0 0 _).mono ?_
   rintro e w4 ⟨rfl, hb4⟩
   have HN := kH (HN.out.below hb4)
   have HT1 := kH (HT1.out.below hb4)
   have HV := kH (HV.out.below hb4)
   have H4 := kH (H3.out.below hb4)
   clear hb4
   have HU : Hid (TreeP w4 (fun k => w.heap.size + 1 ≤ k) (nd [100, 101, 102, 97, 117, 108, 116] []) ⟨bs [100, 101, 102, 97, 117, 108, 116], ⟨#[]⟩, 0, none, 0, 0⟩) := kH (TreeP.leaf _ _ [100, 101, 102, 97, 117, 108, 116] [] 0)
   generalize (⟨bs [100, 101, 102, 97, 117, 108, 116], ⟨#[]⟩, 0, none, 0, 0⟩ : An) = m at *
   unfold An.val
   refine hK.out _ _ (HV.out) (fun hHeld => ?_)
   clear hK K2
   try simp only [nrm]
   have HTW := kH (TreeP.two (w := w4) HT1.out HU.out (by have := HN.out.lt; omega) oRule)
   refine rdL 2 rfl (fun K2 hK => ?_)
   go_simp
   have HN := kH (HN.out.alloc (nB2 n m))
   have HT1 := kH (HT1.out.below ((Below.refl _ _).alloc (Nat.le_refl _) (nB2 n m)))
   have HV := kH (HV.out.alloc (nB2 n m))
   have H4 := kH (H4.out.alloc (nB2 n m))
   refine hK.out _ _ (HV.out) (fun hHeld => ?_)
   clear hK K2
   try simp only [nrm]
   refine rdL 3 rfl (fun K2 hK => ?_)
   go_simp
   refine (CM.out _ _ _ _ _).mono ?_
   rintro e w5 ⟨rfl, hb5⟩
   have HN := kH (HN.out.below hb5)
   have HT1 := kH (HT1.out.below hb5)
   have HV := kH (HV.out.below hb5)
   have HTW := kH (HTW.out.below hb5)
   have H5 := kH (H4.out.below hb5)
   clear hb5
   unfold An.val
   refine hK.out _ _ (HV.out) (fun hHeld => ?_)
   clear hK K2
   try simp only
   refine wpAnyL_ready (rs := [4]) (by kernel_rfl) (by simp) ?_
   refine AllReadyL.store (o := _) rfl (by decide) (by decide) (fun K2 hK => ?_) AllReadyL.nil
   obtain ⟨z0, z1, z2, z3, zk0, zk1, zk2, zk3⟩ := HN.out.cells
   go_simp
   refine hK.out _ _ ?_
   clear hK K2
   try simp only [nrm]
   refine wpAnyL_done (by kernel_rfl) ?_ _
   go_wp2_with fail
   exact bodyPost_ret (v := An.val ⟨bs oRule, ⟨#[]⟩, 0, some ⟨w4.heap.size, 0, none⟩, 2, 2⟩) (by simp [results, Tryz.results42, go_sem, An.val, z0, z1, z2, z3] <;> rfl) rfl (NdPost.put (n := ⟨bs oRule, ⟨#[]⟩, 0, some ⟨w4.heap.size, 0, none⟩, 2, 2⟩) (by unfold ruleP; exact HR1.out.bnd (by rw [if_neg HC.out, if_pos HX.out]; exact Res.ret HR1.out.ne)) H5.out (HTW.out) HK.out)
  ·
   rw [decide_eq_false (show ¬ ((tk l1).k : Int) = 1 from by omega)] at K1
   by_cases h0 : (tk l1).k = 0
   ·
    have HX : Hid ((tk l1).k = 1 ∨ (tk l1).k = 0 ∨ fx l1 = [59]) := kH (.inr (.inl h0))
    rw [decide_eq_true (show ((tk l1).k : Int) = 0 from by omega)] at K0
    clear h1 h0
    refine (K1.out _ H2.out.st).mono ?_
    rintro e w3 ⟨rfl, m3⟩
    have HN := kH (HN.out.onl m3.2 HNZ.out)
    have HT1 := kH (HT1.out.onl m3.2 (by have := HK.out; omega))
    have HV := kH (HV.out.onl m3.2 HBHV.out)
    have H3 := kH (H2.out.trans m3)
    clear m3
    go_wp2_with fail
    refine (K0.out _ H3.out.st).mono ?_
    rintro e w4 ⟨rfl, m4⟩
    have HN := kH (HN.out.onl m4.2 HNZ.out)
    have HT1 := kH (HT1.out.onl m4.2 (by have := HK.out; omega))
    have HV := kH (HV.out.onl m4.2 HBHV.out)
    have H4 := kH (H3.out.trans m4)
    clear m4
    go_wp2_with fail
    have HN := kH (HN.out.drew)
    have HT1 := kH (HT1.out.drew)
    have HV := kH (HV.out.drew)
    have H4 := kH H4.out.drew
    refine wp_region_L (st := [4]) (S := fun Z => BlkA Z w1.heap.size n) (by kernel_rfl) (HV.out) (fun hHeld => ?_)
    generalize w4.drew = wd4 at *
    refine tkL 0 (v := ?_) rfl ?_ ?_
    rotate_left
    ·
     (intro w hSw; obtain ⟨d0, d1, d2, d3, dk0, dk1, dk2, dk3⟩ := BlkA.cells hSw; go_simp; try with_reducible rfl)
    try simp only [nrm]
    refine rdL 1 rfl (fun K2 hK => ?_)
    go_simp
    refine (CM.out (bs [100, 101, 102, 97, 117, 108, 116]) none 0 0 _).mono ?_
    rintro e w5 ⟨rfl, hb5⟩
    have HN := kH (HN.out.below hb5)
    have HT1 := kH (HT1.out.below hb5)
    have HV := kH (HV.out.below hb5)
    have H5 := kH (H4.out.below hb5)
    clear hb5
    have HU : Hid (TreeP w5 (fun k => w.heap.size + 1 ≤ k) (nd [100, 101, 102, 97, 117, 108, 116] []) ⟨bs [100, 101, 102, 97, 117, 108, 116], ⟨#[]⟩, 0, none, 0, 0⟩) := kH (TreeP.leaf _ _ [100, 101, 102, 97, 117, 108, 116] [] 0)
    generalize (⟨bs [100, 101, 102, 97, 117, 108, 116], ⟨#[]⟩, 0, none, 0, 0⟩ : An) = m at *
    unfold An.val
    refine hK.out _ _ (HV.out) (fun hHeld => ?_)
    clear hK K2
    try simp only [nrm]
    have HTW := kH (TreeP.two (w := w5) HT1.out HU.out (by have := HN.out.lt; omega) oRule)
    refine rdL 2 rfl (fun K2 hK => ?_)
    go_simp
    have HN := kH (HN.out.alloc (nB2 n m))
    have HT1 := kH (HT1.out.below ((Below.refl _ _).alloc (Nat.le_refl _) (nB2 n m)))
    have HV := kH (HV.out.alloc (nB2 n m))
    have H5 := kH (H5.out.alloc (nB2 n m))
    refine hK.out _ _ (HV.out) (fun hHeld => ?_)
    clear hK K2
    try simp only [nrm]
    refine rdL 3 rfl (fun K2 hK => ?_)
    go_simp
    refine (CM.out _ _ _ _ _).mono ?_
    rintro e w6 ⟨rfl, hb6⟩
    have HN := kH (HN.out.below hb6)
    have HT1 := kH (HT1.out.below hb6)
    have HV := kH (HV.out.below hb6)
    have HTW := kH (HTW.out.below hb6)
    have H6 := kH (H5.out.below hb6)
    clear hb6
    unfold An.val
    refine hK.out _ _ (HV.out) (fun hHeld => ?_)
    clear hK K2
    try simp only
    refine wpAnyL_ready (rs := [4]) (by kernel_rfl) (by simp) ?_
    refine AllReadyL.store (o := _) rfl (by decide) (by decide) (fun K2 hK => ?_) AllReadyL.nil
    obtain ⟨z0, z1, z2, z3, zk0, zk1, zk2, zk3⟩ := HN.out.cells
    go_simp
    refine hK.out _ _ ?_
    clear hK K2
    try simp only [nrm]
    refine wpAnyL_done (by kernel_rfl) ?_ _
    go_wp2_with fail
    exact bodyPost_ret (v := An.val ⟨bs oRule, ⟨#[]⟩, 0, some ⟨w5.heap.size, 0, none⟩, 2, 2⟩) (by simp [results, Tryz.results42, go_sem, An.val, z0, z1, z2, z3] <;> rfl) rfl (NdPost.put (n := ⟨bs oRule, ⟨#[]⟩, 0, some ⟨w5.heap.size, 0, none⟩, 2, 2⟩) (by unfold ruleP; exact HR1.out.bnd (by rw [if_neg HC.out, if_pos HX.out]; exact Res.ret HR1.out.ne)) H6.out (HTW.out) HK.out)
   ·
    rw [decide_eq_false (show ¬ ((tk l1).k : Int) = 0 from by omega)] at K0
    by_cases h2 : fx l1 = [59]
    ·
     have HX : Hid ((tk l1).k = 1 ∨ (tk l1).k = 0 ∨ fx l1 = [59]) := kH (.inr (.inr h2))
     rw [decide_eq_true h2] at C2
     clear h1 h0 h2
     refine (K1.out _ H2.out.st).mono ?_
     rintro e w3 ⟨rfl, m3⟩
     have HN := kH (HN.out.onl m3.2 HNZ.out)
     have HT1 := kH (HT1.out.onl m3.2 (by have := HK.out; omega))
     have HV := kH (HV.out.onl m3.2 HBHV.out)
     have H3 := kH (H2.out.trans m3)
     clear m3
     go_wp2_with fail
     refine (K0.out _ H3.out.st).mono ?_
     rintro e w4 ⟨rfl, m4⟩
     have HN := kH (HN.out.onl m4.2 HNZ.out)
     have HT1 := kH (HT1.out.onl m4.2 (by have := HK.out; omega))
     have HV := kH (HV.out.onl m4.2 HBHV.out)
     have H4 := kH (H3.out.trans m4)
     clear m4
     go_wp2_with fail
     refine (C2.out _ H4.out.st).mono ?_
     rintro e w5 ⟨rfl, m5⟩
     have HN := kH (HN.out.onl m5.2 HNZ.out)
     have HT1 := kH (HT1.out.onl m5.2 (by have := HK.out; omega))
     have HV := kH (HV.out.onl m5.2 HBHV.out)
     have H5 := kH (H4.out.trans m5)
     clear m5
     go_wp2_with fail
     have HN := kH (HN.out.drew)
     have HT1 := kH (HT1.out.drew)
     have HV := kH (HV.out.drew)
     have H5 := kH H5.out.drew
     refine wp_region_L (st := [4]) (S := fun Z => BlkA Z w1.heap.size n) (by kernel_rfl) (HV.out) (fun hHeld => ?_)
     generalize w5.drew = wd5 at *
     refine tkL 0 (v := ?_) rfl ?_ ?_
     rotate_left
     ·
      (intro w hSw; obtain ⟨d0, d1, d2, d3, dk0, dk1, dk2, dk3⟩ := BlkA.cells hSw; go_simp; try with_reducible rfl)
     try simp only [nrm]
     refine rdL 1 rfl (fun K2 hK => ?_)
     go_simp
     refine (CM.out (bs [100, 101, 102, 97, 117, 108, 116]) none 0 0 _).mono ?_
     rintro e w6 ⟨rfl, hb6⟩
     have HN := kH (HN.out.below hb6)
     have HT1 := kH (HT1.out.below hb6)
     have HV := kH (HV.out.below hb6)
     have H6 := kH (H5.out.below hb6)
     clear hb6
     have HU : Hid (TreeP w6 (fun k => w.heap.size + 1 ≤ k) (nd [100, 101, 102, 97, 117, 108, 116] []) ⟨bs [100, 101, 102, 97, 117, 108, 116], ⟨#[]⟩, 0, none, 0, 0⟩) := kH (TreeP.leaf _ _ [100, 101, 102, 97, 117, 108, 116] [] 0)
     generalize (⟨bs [100, 101, 102, 97, 117, 108, 116], ⟨#[]⟩, 0, none, 0, 0⟩ : An) = m at *
     unfold An.val
     refine hK.out _ _ (HV.out) (fun hHeld => ?_)
     clear hK K2
     try simp only [nrm]
     have HTW := kH (TreeP.two (w := w6) HT1.out HU.out (by have := HN.out.lt; omega) oRule)
     refine rdL 2 rfl (fun K2 hK => ?_)
     go_simp
     have HN := kH (HN.out.alloc (nB2 n m))
     have HT1 := kH (HT1.out.below ((Below.refl _ _).alloc (Nat.le_refl _) (nB2 n m)))
     have HV := kH (HV.out.alloc (nB2 n m))
     have H6 := kH (H6.out.alloc (nB2 n m))
     refine hK.out _ _ (HV.out) (fun hHeld => ?_)
     clear hK K2
     try simp only [nrm]
     refine rdL 3 rfl (fun K2 hK => ?_)
     go_simp
     refine (CM.out _ _ _ _ _).mono ?_
     rintro e w7 ⟨rfl, hb7⟩
     have HN := kH (HN.out.below hb7)
     have HT1 := kH (HT1.out.below hb7)
     have HV := kH (HV.out.below hb7)
     have HTW := kH (HTW.out.below hb7)
     have H7 := kH (H6.out.below hb7)
     clear hb7
     unfold An.val
     refine hK.out _ _ (HV.out) (fun hHeld => ?_)
     clear hK K2
     try simp only
     refine wpAnyL_ready (rs := [4]) (by kernel_rfl) (by simp) ?_
     refine AllReadyL.store (o := _) rfl (by decide) (by decide) (fun K2 hK => ?_) AllReadyL.nil
     obtain ⟨z0, z1, z2, z3, zk0, zk1, zk2, zk3⟩ := HN.out.cells
     go_simp
     refine hK.out _ _ ?_
     clear hK K2
     try simp only [nrm]
     refine wpAnyL_done (by kernel_rfl) ?_ _
     go_wp2_with fail
     exact bodyPost_ret (v := An.val ⟨bs oRule, ⟨#[]⟩, 0, some ⟨w6.heap.size, 0, none⟩, 2, 2⟩) (by simp [results, Tryz.results42, go_sem, An.val, z0, z1, z2, z3] <;> rfl) rfl (NdPost.put (n := ⟨bs oRule, ⟨#[]⟩, 0, some ⟨w6.heap.size, 0, none⟩, 2, 2⟩) (by unfold ruleP; exact HR1.out.bnd (by rw [if_neg HC.out, if_pos HX.out]; exact Res.ret HR1.out.ne)) H7.out (HTW.out) HK.out)
    ·
     have HX : Hid (¬ ((tk l1).k = 1 ∨ (tk l1).k = 0 ∨ fx l1 = [59])) := kH (by rintro (h | h | h) <;> contradiction)
     rw [decide_eq_false h2] at C2
     clear h1 h0 h2
     refine (K1.out _ H2.out.st).mono ?_
     rintro e w3 ⟨rfl, m3⟩
     have HN := kH (HN.out.onl m3.2 HNZ.out)
     have HT1 := kH (HT1.out.onl m3.2 (by have := HK.out; omega))
     have HV := kH (HV.out.onl m3.2 HBHV.out)
     have H3 := kH (H2.out.trans m3)
     clear m3
     go_wp2_with fail
     refine (K0.out _ H3.out.st).mono ?_
     rintro e w4 ⟨rfl, m4⟩
     have HN := kH (HN.out.onl m4.2 HNZ.out)
     have HT1 := kH (HT1.out.onl m4.2 (by have := HK.out; omega))
     have HV := kH (HV.out.onl m4.2 HBHV.out)
     have H4 := kH (H3.out.trans m4)
     clear m4
     go_wp2_with fail
     refine (C2.out _ H4.out.st).mono ?_
     rintro e w5 ⟨rfl, m5⟩
     have HN := kH (HN.out.onl m5.2 HNZ.out)
     have HT1 := kH (HT1.out.onl m5.2 (by have := HK.out; omega))
     have HV := kH (HV.out.onl m5.2 HBHV.out)
     have H5 := kH (H4.out.trans m5)
     clear m5
     go_wp2_with fail
     refine (CX.out _ H5.out.st).mono ?_
     rintro e w6 ⟨rfl, m6⟩
     have HN := kH (HN.out.onl m6.2 HNZ.out)
     have HT1 := kH (HT1.out.onl m6.2 (by have := HK.out; omega))
     have HV := kH (HV.out.onl m6.2 HBHV.out)
     have H6 := kH (H5.out.trans m6)
     clear m6
     go_wp2_with fail
     have HN := kH (HN.out.drew)
     have HT1 := kH (HT1.out.drew)
     have HV := kH (HV.out.drew)
     have H6 := kH H6.out.drew
     refine wp_region_L (st := [4]) (S := fun Z => BlkA Z w1.heap.size n) (by kernel_rfl) (HV.out) (fun hHeld => ?_)
     generalize w6.drew = wd6 at *
     refine tkL 0 (v := ?_) rfl ?_ ?_
     rotate_left
     ·
      (intro w hSw; obtain ⟨d0, d1, d2, d3, dk0, dk1, dk2, dk3⟩ := BlkA.cells hSw; go_simp; try with_reducible rfl)
     try simp only [nrm]
     refine rdL 1 rfl (fun K2 hK => ?_)
     go_simp
     refine (CM.out (bs [100, 101, 102, 97, 117, 108, 116]) none 0 0 _).mono ?_
     rintro e w7 ⟨rfl, hb7⟩
     have HN := kH (HN.out.below hb7)
     have HT1 := kH (HT1.out.below hb7)
     have HV := kH (HV.out.below hb7)
     have H7 := kH (H6.out.below hb7)
     clear hb7
     have HU : Hid (TreeP w7 (fun k => w.heap.size + 1 ≤ k) (nd [100, 101, 102, 97, 117, 108, 116] []) ⟨bs [100, 101, 102, 97, 117, 108, 116], ⟨#[]⟩, 0, none, 0, 0⟩) := kH (TreeP.leaf _ _ [100, 101, 102, 97, 117, 108, 116] [] 0)
     generalize (⟨bs [100, 101, 102, 97, 117, 108, 116], ⟨#[]⟩, 0, none, 0, 0⟩ : An) = m at *
     unfold An.val
     refine hK.out _ _ (HV.out) (fun hHeld => ?_)
     clear hK K2
     try simp only [nrm]
     have HTW := kH (TreeP.two (w := w7) HT1.out HU.out (by have := HN.out.lt; omega) oRule)
     refine rdL 2 rfl (fun K2 hK => ?_)
     go_simp
     have HN := kH (HN.out.alloc (nB2 n m))
     have HT1 := kH (HT1.out.below ((Below.refl _ _).alloc (Nat.le_refl _) (nB2 n m)))
     have HV := kH (HV.out.alloc (nB2 n m))
     have H7 := kH (H7.out.alloc (nB2 n m))
     refine hK.out _ _ (HV.out) (fun hHeld => ?_)
     clear hK K2
     try simp only [nrm]
     refine rdL 3 rfl (fun K2 hK => ?_)
     go_simp
     refine (CM.out _ _ _ _ _).mono ?_
     rintro e w8 ⟨rfl, hb8⟩
     have HN := kH (HN.out.below hb8)
     have HT1 := kH (HT1.out.below hb8)
     have HV := kH (HV.out.below hb8)
     have HTW := kH (HTW.out.below hb8)
     have H8 := kH (H7.out.below hb8)
     clear hb8
     unfold An.val
     refine hK.out _ _ (HV.out) (fun hHeld => ?_)
     clear hK K2
     try simp only
     refine wpAnyL_ready (rs := [4]) (by kernel_rfl) (by simp) ?_
     refine AllReadyL.store (o := _) rfl (by decide) (by decide) (fun K2 hK => ?_) AllReadyL.nil
     obtain ⟨z0, z1, z2, z3, zk0, zk1, zk2, zk3⟩ := HN.out.cells
     go_simp
     refine hK.out _ _ ?_
     clear hK K2
     try simp only [nrm]
     refine wpAnyL_done (by kernel_rfl) ?_ _
     go_wp2_with fail
     exact bodyPost_ret (v := An.val ⟨bs oRule, ⟨#[]⟩, 0, some ⟨w7.heap.size, 0, none⟩, 2, 2⟩) (by simp [results, Tryz.results42, go_sem, An.val, z0, z1, z2, z3] <;> rfl) rfl (NdPost.put (n := ⟨bs oRule, ⟨#[]⟩, 0, some ⟨w7.heap.size, 0, none⟩, 2, 2⟩) (by unfold ruleP; exact HR1.out.bnd (by rw [if_neg HC.out, if_neg HX.out]; exact Res.fail _ HR1.out.ne rfl)) H8.out (HTW.out) HK.out)
end Go.Proofs.YtmbfdkiejneheaaGreatDoor
