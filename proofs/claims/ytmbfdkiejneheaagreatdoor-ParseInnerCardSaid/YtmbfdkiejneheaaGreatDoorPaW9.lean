/-
 CONTRACTS of layer 13's post, signed, unary.
-/
import Derived.Test.YtmbfdkiejneheaaGreatDoorPaW8
namespace Go.Proofs.YtmbfdkiejneheaaGreatDoor
open Go.RowKit

set_option maxHeartbeats 8000000 in
set_option maxRecDepth 100000 in
theorem ppost_any {reOk : List UInt8 → Bool} {K : Ps} {m : Nat} (HRe : ReOk reOk) (IE : OkE reOk K m 59 fun R pr => R.E pr) (IP : OkN reOk K m 124 fun R _ => primP reOk R) (dp : Nat) (pr : Bool) (l : List Tok) (er : ErO) (w : World) (hd : DpOk dp l) (hl : l.length ≤ m) (h : Pst w K l dp pr er) :
  Calls Tryz.prog 121 #[.pointer (some ⟨K.b, 0, none⟩)] w (NdPost K w w.heap.size l (postP reOk (rcP reOk (50 - dp)) l) dp pr er) := by
 have CS := kH (pstepc_any K l dp pr er)
 have CQ := kH fun W hs hW => ppre_any IP dp pr l er W hd hl hs hW
 have CP := kH fun W hW => pprim_any HRe IE IP dp pr l er W hd hl hW
 have CI := kH fun t n hn W => pispl_any t n hn W
 have CT1 := kH fun l1 er1 => ptake_any K l1 dp pr er1 [43, 43]
 have CT2 := kH fun l1 er1 => ptake_any K l1 dp pr er1 [45, 45]
 have CM := kH fun o p n c W => pnode_any o p n c W
 have HK : Hid (K.b < w.heap.size ∧ K.g < w.heap.size) := kH ⟨h.lt, h.glt⟩
 have HNZ : Hid (w.heap.size ≠ K.b) := kH (by have := HK.out; omega)
 have HN := kH (BlkA.new0 w)
 have H0 := kH ((Mv.refl h).alloc zN)
 have HSZ : Hid (w.heap.size + 1 = (w.alloc zN).heap.size) := kH (by simp)
 clear HRe IE IP hd hl h
 by_cases hs : stepB l = true
 ·
  have HS := kH hs
  rw [hs] at CS
  clear hs
  go_enter Tryz.func121, Tryz.ntmps121
  go_wp2_with fail
  generalize w.alloc zN = w0 at *
  refine (CS.out _ H0.out.st).mono ?_
  rintro e w1 ⟨rfl, m1⟩
  have HN := kH (HN.out.onl m1.2 HNZ.out)
  have H1 := kH (H0.out.trans m1)
  clear m1
  go_wp2_with fail
  have HLT := kH HN.out.lt
  refine (CQ.out _ HS.out H1.out.st).mono ?_
  rintro e w2 ⟨t2, n2, l2, er2, rfl, r2, m2, tr2⟩
  have HN := kH (HN.out.onl m2.2 HNZ.out)
  have HR2 := kH r2
  have HT2 := kH (tr2.low (B1 := w.heap.size + 1) (by have := HLT.out; omega))
  have H2 := kH (H1.out.trans m2)
  clear m2 r2 tr2
  unfold An.val
  obtain ⟨z0, z1, z2, z3, zk0, zk1, zk2, zk3⟩ := HN.out.cells
  go_wp2_with fail
  exact bodyPost_ret (v := An.val n2) (by simp [results, Tryz.results121, go_sem, An.val, z0, z1, z2, z3]) rfl (NdPost.put (n := n2) (by unfold postP; rw [if_pos HS.out]; exact HR2.out) H2.out (HT2.out) HK.out)
 ·
  have HS := kH hs
  rw [show stepB l = false from by simpa using hs] at CS
  clear hs
  go_enter Tryz.func121, Tryz.ntmps121
  go_wp2_with fail
  generalize w.alloc zN = w0 at *
  refine (CS.out _ H0.out.st).mono ?_
  rintro e w1 ⟨rfl, m1⟩
  have HN := kH (HN.out.onl m1.2 HNZ.out)
  have H1 := kH (H0.out.trans m1)
  clear m1
  go_wp2_with fail
  have HLT := kH HN.out.lt
  refine (CP.out _ H1.out.st).mono ?_
  rintro e w2 ⟨t2, n2, l2, er2, rfl, r2, m2, tr2⟩
  have HN := kH (HN.out.onl m2.2 HNZ.out)
  have HR2 := kH r2
  have HT2 := kH (tr2.low (B1 := w.heap.size + 1) (by have := HLT.out; omega))
  have H2 := kH (H1.out.trans m2)
  clear m2 r2 tr2
  have CI := kH (CI.out t2 n2 HT2.out.opx)
  have CT1 := kH (CT1.out l2 er2)
  have CT2 := kH (CT2.out l2 er2)
  have HTL := kH H2.out.st.tll.nx
  unfold An.val at CI ⊢
  have HBHV : Hid (w2.heap.size ≠ K.b) := kH (by have := H2.out.st.lt; omega)
  have HN := kH (HN.out.alloc (nB n2))
  have HT2 := kH (HT2.out.below ((Below.refl _ _).alloc (Nat.le_refl _) (nB n2)))
  have HV := kH (BlkA.new w2 n2)
  have H2 := kH (H2.out.alloc (nB n2))
  go_wp2_with fail
  cases hp : isPl t2 with
  | true =>
   have HP := kH hp
   rw [hp] at CI
   clear hp
   refine (CI.out _).mono ?_
   rintro e w3 ⟨rfl, hb3⟩
   have HN := kH (HN.out.below hb3)
   have HT2 := kH (HT2.out.below hb3)
   have HV := kH (HV.out.below hb3)
   have H3 := kH (H2.out.below hb3)
   clear hb3
   go_wp2_with fail
   by_cases h1 : fx l2 = [43, 43]
   ·
    have HF := kH h1
    rw [if_pos h1, decide_eq_true h1] at CT1
    clear h1
    refine (CT1.out _ H3.out.st).mono ?_
    rintro e w4 ⟨rfl, m4⟩
    have HN := kH (HN.out.onl m4.2 HNZ.out)
    have HT2 := kH (HT2.out.onl m4.2 (by have := HK.out; omega))
    have HV := kH (HV.out.onl m4.2 HBHV.out)
    have H4 := kH (H3.out.trans m4)
    clear m4
    obtain ⟨u0, u1, u2, u3, uk0, uk1, uk2, uk3⟩ := HV.out.cells
    go_wp2_with fail
    have HRW := kH (RwA.new1 (w := w4) (B0 := w.heap.size + 1) HT2.out (by have := HN.out.lt; omega))
    have HN := kH (HN.out.alloc (nB n2))
    have HT2 := kH (HT2.out.below ((Below.refl _ _).alloc (Nat.le_refl _) (nB n2)))
    have HV := kH (HV.out.alloc (nB n2))
    have H4 := kH (H4.out.alloc (nB n2))
    go_wp2_with fail
    refine (CM.out _ _ _ _ _).mono ?_
    rintro e w5 ⟨rfl, hb5⟩
    have HRW := kH (HRW.out.below hb5)
    have HN := kH (HN.out.below hb5)
    have HT2 := kH (HT2.out.below hb5)
    have HV := kH (HV.out.below hb5)
    have H5 := kH (H4.out.below hb5)
    clear hb5
    unfold An.val
    obtain ⟨z0, z1, z2, z3, zk0, zk1, zk2, zk3⟩ := HN.out.cells
    go_wp2_with fail
    exact bodyPost_ret (v := An.val ⟨bs [112, 111, 115, 116, 105, 110, 99], ⟨#[]⟩, 0, some ⟨w4.heap.size, 0, none⟩, 1, 1⟩) (by simp [results, Tryz.results121, go_sem, An.val, z0, z1, z2, z3] <;> rfl) rfl (NdPost.put (n := ⟨bs [112, 111, 115, 116, 105, 110, 99], ⟨#[]⟩, 0, some ⟨w4.heap.size, 0, none⟩, 1, 1⟩) (by unfold postP; rw [if_neg HS.out]; exact HR2.out.bnd (by rw [if_pos HP.out, if_pos HF.out]; exact Res.ret' HTL.out.1 HTL.out.2.1)) H5.out (HRW.out.nd [112, 111, 115, 116, 105, 110, 99]) HK.out)
   ·
    have HF := kH h1
    rw [if_neg h1, decide_eq_false h1] at CT1
    clear h1
    refine (CT1.out _ H3.out.st).mono ?_
    rintro e w4 ⟨rfl, m4⟩
    have HN := kH (HN.out.onl m4.2 HNZ.out)
    have HT2 := kH (HT2.out.onl m4.2 (by have := HK.out; omega))
    have HV := kH (HV.out.onl m4.2 HBHV.out)
    have H4 := kH (H3.out.trans m4)
    clear m4
    go_wp2_with fail
    by_cases h1 : fx l2 = [45, 45]
    ·
     have HF2 := kH h1
     rw [if_pos h1, decide_eq_true h1] at CT2
     clear h1
     refine (CT2.out _ H4.out.st).mono ?_
     rintro e w5 ⟨rfl, m5⟩
     have HN := kH (HN.out.onl m5.2 HNZ.out)
     have HT2 := kH (HT2.out.onl m5.2 (by have := HK.out; omega))
     have HV := kH (HV.out.onl m5.2 HBHV.out)
     have H5 := kH (H4.out.trans m5)
     clear m5
     obtain ⟨u0, u1, u2, u3, uk0, uk1, uk2, uk3⟩ := HV.out.cells
     go_wp2_with fail
     have HRW := kH (RwA.new1 (w := w5) (B0 := w.heap.size + 1) HT2.out (by have := HN.out.lt; omega))
     have HN := kH (HN.out.alloc (nB n2))
     have HT2 := kH (HT2.out.below ((Below.refl _ _).alloc (Nat.le_refl _) (nB n2)))
     have HV := kH (HV.out.alloc (nB n2))
     have H5 := kH (H5.out.alloc (nB n2))
     go_wp2_with fail
     refine (CM.out _ _ _ _ _).mono ?_
     rintro e w6 ⟨rfl, hb6⟩
     have HRW := kH (HRW.out.below hb6)
     have HN := kH (HN.out.below hb6)
     have HT2 := kH (HT2.out.below hb6)
     have HV := kH (HV.out.below hb6)
     have H6 := kH (H5.out.below hb6)
     clear hb6
     unfold An.val
     obtain ⟨z0, z1, z2, z3, zk0, zk1, zk2, zk3⟩ := HN.out.cells
     go_wp2_with fail
     exact bodyPost_ret (v := An.val ⟨bs [112, 111, 115, 116, 100, 101, 99], ⟨#[]⟩, 0, some ⟨w5.heap.size, 0, none⟩, 1, 1⟩) (by simp [results, Tryz.results121, go_sem, An.val, z0, z1, z2, z3] <;> rfl) rfl (NdPost.put (n := ⟨bs [112, 111, 115, 116, 100, 101, 99], ⟨#[]⟩, 0, some ⟨w5.heap.size, 0, none⟩, 1, 1⟩) (by unfold postP; rw [if_neg HS.out]; exact HR2.out.bnd (by rw [if_pos HP.out, if_neg HF.out, if_pos HF2.out]; exact Res.ret' HTL.out.1 HTL.out.2.1)) H6.out (HRW.out.nd [112, 111, 115, 116, 100, 101, 99]) HK.out)
    ·
     have HF2 := kH h1
     rw [if_neg h1, decide_eq_false h1] at CT2
     clear h1
     refine (CT2.out _ H4.out.st).mono ?_
     rintro e w5 ⟨rfl, m5⟩
     have HN := kH (HN.out.onl m5.2 HNZ.out)
     have HT2 := kH (HT2.out.onl m5.2 (by have := HK.out; omega))
     have HV := kH (HV.out.onl m5.2 HBHV.out)
     have H5 := kH (H4.out.trans m5)
     clear m5
     obtain ⟨u0, u1, u2, u3, uk0, uk1, uk2, uk3⟩ := HV.out.cells
     obtain ⟨z0, z1, z2, z3, zk0, zk1, zk2, zk3⟩ := HN.out.cells
     go_wp2_with fail
     exact bodyPost_ret (v := An.val n2) (by simp [results, Tryz.results121, go_sem, An.val, z0, z1, z2, z3]) rfl (NdPost.put (n := n2) (by unfold postP; rw [if_neg HS.out]; exact HR2.out.bnd (by rw [if_pos HP.out, if_neg HF.out, if_neg HF2.out]; exact Res.ret HR2.out.ne)) H5.out (HT2.out) HK.out)
  | false =>
   have HP := kH hp
   rw [hp] at CI
   clear hp
   refine (CI.out _).mono ?_
   rintro e w3 ⟨rfl, hb3⟩
   have HN := kH (HN.out.below hb3)
   have HT2 := kH (HT2.out.below hb3)
   have HV := kH (HV.out.below hb3)
   have H3 := kH (H2.out.below hb3)
   clear hb3
   obtain ⟨u0, u1, u2, u3, uk0, uk1, uk2, uk3⟩ := HV.out.cells
   obtain ⟨z0, z1, z2, z3, zk0, zk1, zk2, zk3⟩ := HN.out.cells
   go_wp2_with fail
   exact bodyPost_ret (v := An.val n2) (by simp [results, Tryz.results121, go_sem, An.val, z0, z1, z2, z3]) rfl (NdPost.put (n := n2) (by unfold postP; rw [if_neg HS.out]; exact HR2.out.bnd (by rw [if_neg (by rw [HP.out]; decide)]; exact Res.ret HR2.out.ne)) H3.out (HT2.out) HK.out)
set_option maxHeartbeats 8000000 in
set_option maxRecDepth 100000 in
theorem psigned_any {reOk : List UInt8 → Bool} {K : Ps} {m : Nat} (IU : OkN reOk K m 119 fun R _ => unaryP reOk R) (op : List UInt8) (dp : Nat) (pr : Bool) (l : List Tok) (er : ErO) (w : World) (hd : dp ≤ 50) (hl : l.length ≤ m) (hk : (tk l).k ≠ 0) (h : Pst w K l dp pr er) :
  Calls Tryz.prog 120 #[.pointer (some ⟨K.b, 0, none⟩), .string ⟨op.toArray⟩] w (NdPost K w w.heap.size l (bnd ((rcP reOk (50 - dp)).U (nx l)) fun t l2 => .ok (nd op [t], l2)) dp pr er) := by
 have hlt := h.tll.nx.2.2.2 hk
 by_cases h50 : dp = 50
 ·
  subst h50
  have HSP : Hid ((rcP reOk (50 - 50)).U (nx l) = .error (deepE (nx l))) := kH rfl
  have HTL := kH h.tll.nx
  have hn1 := h.tll.nx.2.1
  have hd1 : DpOk 51 (lst (nx l)) := .inr ⟨by decide, lst_len hn1⟩
  have hll : (lst (nx l)).length < m := by have := lst_len hn1; have := h.tll.nx.2.2.1.pos; omega
  have CN := kH (pnext_any K l 50 pr er)
  have CE := kH (penter_deep K (nx l) pr er)
  have CU := kH fun W hW => IU 51 pr (lst (nx l)) (some (er.getD (deepE (nx l)))) W hd1 hll hW
  have CL := kH fun l1 er1 u W hW => pleave_d K l1 50 pr er1 (by decide) u W hW
  have CM := kH fun o p n c W => pnode_any o p n c W
  have HK : Hid (K.b < w.heap.size ∧ K.g < w.heap.size) := kH ⟨h.lt, h.glt⟩
  have HNZ : Hid (w.heap.size ≠ K.b) := kH (by have := HK.out; omega)
  have HN := kH (BlkA.new0 w)
  have H0 := kH ((Mv.refl h).alloc zN)
  have HSZ : Hid (w.heap.size + 1 = (w.alloc zN).heap.size) := kH (by simp)
  clear IU hd hl hk hlt h hd1 hll hn1
  go_enter_defers Tryz.func120, Tryz.ntmps120
  go_wp2_with fail
  generalize w.alloc zN = w0 at *
  refine (CN.out _ H0.out.st).mono ?_
  rintro e w1 ⟨rfl, m1⟩
  have HN := kH (HN.out.onl m1.2 HNZ.out)
  have H1 := kH (H0.out.trans m1)
  clear m1
  unfold tokV
  go_wp2_with fail
  refine (CE.out _ H1.out.st).mono ?_
  rintro e w2 ⟨rfl, m2⟩
  have HN := kH (HN.out.onl m2.2 HNZ.out)
  have H2 := kH (H1.out.trans m2)
  clear m2
  go_wp2_with fail
  have HLT := kH HN.out.lt
  refine (CU.out _ H2.out.st).mono ?_
  rintro e w3 ⟨t2, n2, l2, er2, rfl, r3, m3, tr2⟩
  have HN := kH (HN.out.onl m3.2 HNZ.out)
  have HR3 := kH r3
  have HT2 := kH (tr2.low (B1 := w.heap.size + 1) (by have := HLT.out; omega))
  have H3 := kH (H2.out.trans m3)
  clear m3 r3 tr2
  unfold An.val
  have HRW := kH (RwA.new1 (w := w3) (B0 := w.heap.size + 1) HT2.out (by have := HN.out.lt; omega))
  have HN := kH (HN.out.alloc (nB n2))
  have H3 := kH (H3.out.alloc (nB n2))
  go_wp2_with fail
  refine (CM.out _ _ _ _ _).mono ?_
  rintro e w4 ⟨rfl, hb4⟩
  have HRW := kH (HRW.out.below hb4)
  have HN := kH (HN.out.below hb4)
  have H4 := kH (H3.out.below hb4)
  clear hb4
  unfold An.val
  obtain ⟨z0, z1, z2, z3, zk0, zk1, zk2, zk3⟩ := HN.out.cells
  go_wp2_with fail
  have HPD := kH (BlkA.putA HN.out ⟨bs op, ⟨#[]⟩, 0, some ⟨w3.heap.size, 0, none⟩, 1, 1⟩)
  have HMD := kH (Mv.putA H4.out (Nat.le_refl _) HK.out ⟨bs op, ⟨#[]⟩, 0, some ⟨w3.heap.size, 0, none⟩, 1, 1⟩)
  have HTD := kH (TreeP.putA (HRW.out.nd op) (g := w.heap.size) (fun k hk _ => by omega) ⟨bs op, ⟨#[]⟩, 0, some ⟨w3.heap.size, 0, none⟩, 1, 1⟩)
  refine leaves_cons (f := 65) (args := #[.pointer (some ⟨K.b, 0, none⟩)]) (by simp) (by simp [go_sem]) ?_
  refine (CL.out _ _ .returning _ HMD.out.st).mono ?_
  rintro e u' w9 ⟨rfl, rfl, m9⟩
  obtain ⟨y0, y1, y2, y3, yk0, yk1, yk2, yk3⟩ := (HPD.out.onl m9.2 HNZ.out).cells
  exact ⟨An.val ⟨bs op, ⟨#[]⟩, 0, some ⟨w3.heap.size, 0, none⟩, 1, 1⟩, by simp [results, Tryz.results120, go_sem, An.val, y0, y1, y2, y3], _, _, _, _, rfl, (by rw [HSP.out]; exact (Res.dead (HR3.out.bnd (f := fun t l2 => .ok (nd op [t], l2)) (Res.ret HR3.out.ne)) HTL.out.2.1 rfl).pre HTL.out.1), HMD.out.trans m9, (HTD.out.onl m9.2 (by have := HK.out; omega)).low (Nat.le_succ _)⟩
 ·
  obtain ⟨k, hk2⟩ : ∃ k, 50 - dp = k + 1 := ⟨49 - dp, by omega⟩
  have HSP : Hid ((rcP reOk (50 - dp)).U (nx l) = unaryP reOk (rcP reOk (50 - (dp + 1))) (nx l)) := kH (by rw [hk2, show 50 - (dp + 1) = k from by omega]; rfl)
  have hdp : dp < 50 := by omega
  have hd1 : DpOk (dp + 1) (nx l) := .inl (by omega)
  have CN := kH (pnext_any K l dp pr er)
  have CE := kH (penter_any K (nx l) dp pr er hdp)
  have CU := kH fun W hW => IU (dp + 1) pr (nx l) er W hd1 (by omega) hW
  have CL := kH fun l1 er1 u W hW => pleave_d K l1 dp pr er1 (by omega) u W hW
  have CM := kH fun o p n c W => pnode_any o p n c W
  have HTL := kH h.tll.nx
  have HK : Hid (K.b < w.heap.size ∧ K.g < w.heap.size) := kH ⟨h.lt, h.glt⟩
  have HNZ : Hid (w.heap.size ≠ K.b) := kH (by have := HK.out; omega)
  have HN := kH (BlkA.new0 w)
  have H0 := kH ((Mv.refl h).alloc zN)
  have HSZ : Hid (w.heap.size + 1 = (w.alloc zN).heap.size) := kH (by simp)
  clear IU hd hl hk hlt h h50 hk2 hdp hd1
  go_enter_defers Tryz.func120, Tryz.ntmps120
  go_wp2_with fail
  generalize w.alloc zN = w0 at *
  refine (CN.out _ H0.out.st).mono ?_
  rintro e w1 ⟨rfl, m1⟩
  have HN := kH (HN.out.onl m1.2 HNZ.out)
  have H1 := kH (H0.out.trans m1)
  clear m1
  unfold tokV
  go_wp2_with fail
  refine (CE.out _ H1.out.st).mono ?_
  rintro e w2 ⟨rfl, m2⟩
  have HN := kH (HN.out.onl m2.2 HNZ.out)
  have H2 := kH (H1.out.trans m2)
  clear m2
  go_wp2_with fail
  have HLT := kH HN.out.lt
  refine (CU.out _ H2.out.st).mono ?_
  rintro e w3 ⟨t2, n2, l2, er2, rfl, r3, m3, tr2⟩
  have HN := kH (HN.out.onl m3.2 HNZ.out)
  have HR3 := kH r3
  have HT2 := kH (tr2.low (B1 := w.heap.size + 1) (by have := HLT.out; omega))
  have H3 := kH (H2.out.trans m3)
  clear m3 r3 tr2
  unfold An.val
  have HRW := kH (RwA.new1 (w := w3) (B0 := w.heap.size + 1) HT2.out (by have := HN.out.lt; omega))
  have HN := kH (HN.out.alloc (nB n2))
  have H3 := kH (H3.out.alloc (nB n2))
  go_wp2_with fail
  refine (CM.out _ _ _ _ _).mono ?_
  rintro e w4 ⟨rfl, hb4⟩
  have HRW := kH (HRW.out.below hb4)
  have HN := kH (HN.out.below hb4)
  have H4 := kH (H3.out.below hb4)
  clear hb4
  unfold An.val
  obtain ⟨z0, z1, z2, z3, zk0, zk1, zk2, zk3⟩ := HN.out.cells
  go_wp2_with fail
  have HPD := kH (BlkA.putA HN.out ⟨bs op, ⟨#[]⟩, 0, some ⟨w3.heap.size, 0, none⟩, 1, 1⟩)
  have HMD := kH (Mv.putA H4.out (Nat.le_refl _) HK.out ⟨bs op, ⟨#[]⟩, 0, some ⟨w3.heap.size, 0, none⟩, 1, 1⟩)
  have HTD := kH (TreeP.putA (HRW.out.nd op) (g := w.heap.size) (fun k hk _ => by omega) ⟨bs op, ⟨#[]⟩, 0, some ⟨w3.heap.size, 0, none⟩, 1, 1⟩)
  refine leaves_cons (f := 65) (args := #[.pointer (some ⟨K.b, 0, none⟩)]) (by simp) (by simp [go_sem]) ?_
  refine (CL.out _ _ .returning _ HMD.out.st).mono ?_
  rintro e u' w9 ⟨rfl, rfl, m9⟩
  obtain ⟨y0, y1, y2, y3, yk0, yk1, yk2, yk3⟩ := (HPD.out.onl m9.2 HNZ.out).cells
  exact ⟨An.val ⟨bs op, ⟨#[]⟩, 0, some ⟨w3.heap.size, 0, none⟩, 1, 1⟩, by simp [results, Tryz.results120, go_sem, An.val, y0, y1, y2, y3], _, _, _, _, rfl, by rw [HSP.out]; exact (HR3.out.bnd (Res.ret HR3.out.ne)).pre HTL.out.1, HMD.out.trans m9, (HTD.out.onl m9.2 (by have := HK.out; omega)).low (Nat.le_succ _)⟩
set_option maxHeartbeats 8000000 in
set_option maxRecDepth 100000 in
theorem punary_any {reOk : List UInt8 → Bool} {K : Ps} {m : Nat} (HRe : ReOk reOk) (IE : OkE reOk K m 59 fun R pr => R.E pr) (IP : OkN reOk K m 124 fun R _ => primP reOk R) (IU : OkN reOk K m 119 fun R _ => unaryP reOk R) (dp : Nat) (pr : Bool) (l : List Tok) (er : ErO) (w : World) (hd : DpOk dp l) (hl : l.length ≤ m) (h : Pst w K l dp pr er) :
  Calls Tryz.prog 119 #[.pointer (some ⟨K.b, 0, none⟩)] w (NdPost K w w.heap.size l (unaryP reOk (rcP reOk (50 - dp)) l) dp pr er) := by
 have CF := kH (pfix_any K l dp pr er)
 have hd50 : (tk l).k ≠ 0 → dp ≤ 50 := fun hk => by
  have := h.tll.nx.2.2.2 hk
  have := h.tll.nx.2.2.1.pos
  rcases hd with h1 | ⟨_, h1⟩ <;> omega
 have CG := kH fun op W hk hW => psigned_any IU op dp pr l er W (hd50 hk) hl hk hW
 have CP := kH fun W hW => ppost_any HRe IE IP dp pr l er W hd hl hW
 generalize hS : fx l = S at *
 have HK : Hid (K.b < w.heap.size ∧ K.g < w.heap.size) := kH ⟨h.lt, h.glt⟩
 have HNZ : Hid (w.heap.size ≠ K.b) := kH (by have := HK.out; omega)
 have HN := kH (BlkA.new0 w)
 have H0 := kH ((Mv.refl h).alloc zN)
 have HSZ : Hid (w.heap.size + 1 = (w.alloc zN).heap.size) := kH (by simp)
 clear HRe IE IP IU hd hl hd50 h
 by_cases h0 : S = [33]
 ·
  have HX : Hid (unaryP reOk (rcP reOk (50 - dp)) l = bnd ((rcP reOk (50 - dp)).U (nx l)) fun t l2 => .ok (nd [110, 111, 116] [t], l2)) := kH (by unfold unaryP; rw [if_pos (hS.trans h0)])
  have HK0 : Hid ((tk l).k ≠ 0) := kH (fx_kind (hS.trans h0) (by simp))
  subst h0
  have CG := kH (CG.out [110, 111, 116])
  clear hS 
  go_enter Tryz.func119, Tryz.ntmps119
  go_wp2_with fail
  generalize w.alloc zN = w0 at *
  refine (CF.out _ H0.out.st).mono ?_
  rintro e w1 ⟨rfl, m1⟩
  have HN := kH (HN.out.onl m1.2 HNZ.out)
  have H1 := kH (H0.out.trans m1)
  clear m1
  go_wp2_with fail
  have HLT := kH HN.out.lt
  refine (CG.out _ HK0.out H1.out.st).mono ?_
  rintro e w2 ⟨t2, n2, l2, er2, rfl, r2, m2, tr2⟩
  have HN := kH (HN.out.onl m2.2 HNZ.out)
  have HR2 := kH r2
  have HT2 := kH (tr2.low (B1 := w.heap.size + 1) (by have := HLT.out; omega))
  have H2 := kH (H1.out.trans m2)
  clear m2 r2 tr2
  unfold An.val
  obtain ⟨z0, z1, z2, z3, zk0, zk1, zk2, zk3⟩ := HN.out.cells
  go_wp2_with fail
  exact bodyPost_ret (v := An.val n2) (by simp [results, Tryz.results119, go_sem, An.val, z0, z1, z2, z3]) rfl (NdPost.put (n := n2) (by rw [HX.out]; exact HR2.out) H2.out (HT2.out) HK.out)
 ·
  by_cases h1 : S = [45]
  ·
   have HX : Hid (unaryP reOk (rcP reOk (50 - dp)) l = bnd ((rcP reOk (50 - dp)).U (nx l)) fun t l2 => .ok (nd [110, 101, 103] [t], l2)) := kH (by unfold unaryP; rw [if_neg (by rw [hS]; exact h0)]; rw [if_pos (hS.trans h1)])
   have HK0 : Hid ((tk l).k ≠ 0) := kH (fx_kind (hS.trans h1) (by simp))
   subst h1
   have CG := kH (CG.out [110, 101, 103])
   clear hS h0
   go_enter Tryz.func119, Tryz.ntmps119
   go_wp2_with fail
   generalize w.alloc zN = w0 at *
   refine (CF.out _ H0.out.st).mono ?_
   rintro e w1 ⟨rfl, m1⟩
   have HN := kH (HN.out.onl m1.2 HNZ.out)
   have H1 := kH (H0.out.trans m1)
   clear m1
   go_wp2_with fail
   have HLT := kH HN.out.lt
   refine (CG.out _ HK0.out H1.out.st).mono ?_
   rintro e w2 ⟨t2, n2, l2, er2, rfl, r2, m2, tr2⟩
   have HN := kH (HN.out.onl m2.2 HNZ.out)
   have HR2 := kH r2
   have HT2 := kH (tr2.low (B1 := w.heap.size + 1) (by have := HLT.out; omega))
   have H2 := kH (H1.out.trans m2)
   clear m2 r2 tr2
   unfold An.val
   obtain ⟨z0, z1, z2, z3, zk0, zk1, zk2, zk3⟩ := HN.out.cells
   go_wp2_with fail
   exact bodyPost_ret (v := An.val n2) (by simp [results, Tryz.results119, go_sem, An.val, z0, z1, z2, z3]) rfl (NdPost.put (n := n2) (by rw [HX.out]; exact HR2.out) H2.out (HT2.out) HK.out)
  ·
   by_cases h2 : S = [43]
   ·
    have HX : Hid (unaryP reOk (rcP reOk (50 - dp)) l = bnd ((rcP reOk (50 - dp)).U (nx l)) fun t l2 => .ok (nd [112, 108, 117, 115] [t], l2)) := kH (by unfold unaryP; rw [if_neg (by rw [hS]; exact h0)]; rw [if_neg (by rw [hS]; exact h1)]; rw [if_pos (hS.trans h2)])
    have HK0 : Hid ((tk l).k ≠ 0) := kH (fx_kind (hS.trans h2) (by simp))
    subst h2
    have CG := kH (CG.out [112, 108, 117, 115])
    clear hS h0 h1
    go_enter Tryz.func119, Tryz.ntmps119
    go_wp2_with fail
    generalize w.alloc zN = w0 at *
    refine (CF.out _ H0.out.st).mono ?_
    rintro e w1 ⟨rfl, m1⟩
    have HN := kH (HN.out.onl m1.2 HNZ.out)
    have H1 := kH (H0.out.trans m1)
    clear m1
    go_wp2_with fail
    have HLT := kH HN.out.lt
    refine (CG.out _ HK0.out H1.out.st).mono ?_
    rintro e w2 ⟨t2, n2, l2, er2, rfl, r2, m2, tr2⟩
    have HN := kH (HN.out.onl m2.2 HNZ.out)
    have HR2 := kH r2
    have HT2 := kH (tr2.low (B1 := w.heap.size + 1) (by have := HLT.out; omega))
    have H2 := kH (H1.out.trans m2)
    clear m2 r2 tr2
    unfold An.val
    obtain ⟨z0, z1, z2, z3, zk0, zk1, zk2, zk3⟩ := HN.out.cells
    go_wp2_with fail
    exact bodyPost_ret (v := An.val n2) (by simp [results, Tryz.results119, go_sem, An.val, z0, z1, z2, z3]) rfl (NdPost.put (n := n2) (by rw [HX.out]; exact HR2.out) H2.out (HT2.out) HK.out)
   ·
    have HX : Hid (unaryP reOk (rcP reOk (50 - dp)) l = postP reOk (rcP reOk (50 - dp)) l) := kH (by unfold unaryP; rw [if_neg (by rw [hS]; exact h0)]; rw [if_neg (by rw [hS]; exact h1)]; rw [if_neg (by rw [hS]; exact h2)])
    have g0 : (S == [33]) = false := by rw [beq_eq_false_iff_ne]; exact h0
    have g1 : (S == [45]) = false := by rw [beq_eq_false_iff_ne]; exact h1
    have g2 : (S == [43]) = false := by rw [beq_eq_false_iff_ne]; exact h2
    clear hS h0 h1 h2
    go_enter Tryz.func119, Tryz.ntmps119
    go_wp2_with fail
    generalize w.alloc zN = w0 at *
    refine (CF.out _ H0.out.st).mono ?_
    rintro e w1 ⟨rfl, m1⟩
    have HN := kH (HN.out.onl m1.2 HNZ.out)
    have H1 := kH (H0.out.trans m1)
    clear m1
    go_wp2_with fail
    have HLT := kH HN.out.lt
    refine (CP.out _ H1.out.st).mono ?_
    rintro e w2 ⟨t2, n2, l2, er2, rfl, r2, m2, tr2⟩
    have HN := kH (HN.out.onl m2.2 HNZ.out)
    have HR2 := kH r2
    have HT2 := kH (tr2.low (B1 := w.heap.size + 1) (by have := HLT.out; omega))
    have H2 := kH (H1.out.trans m2)
    clear m2 r2 tr2
    unfold An.val
    obtain ⟨z0, z1, z2, z3, zk0, zk1, zk2, zk3⟩ := HN.out.cells
    go_wp2_with fail
    exact bodyPost_ret (v := An.val n2) (by simp [results, Tryz.results119, go_sem, An.val, z0, z1, z2, z3]) rfl (NdPost.put (n := n2) (by rw [HX.out]; exact HR2.out) H2.out (HT2.out) HK.out)
end Go.Proofs.YtmbfdkiejneheaaGreatDoor
