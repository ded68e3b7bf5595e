/-
 CONTRACTS of layer 13's statement.
-/
import Derived.Test.YtmbfdkiejneheaaGreatDoorPaXE
namespace Go.Proofs.YtmbfdkiejneheaaGreatDoor
open Go.RowKit

theorem stmt_end (R : Rc) (reOk : List UInt8 → Bool) (l : List Tok) : (bnd (simpleP R reOk l) fun t l2 => if (tk l2).k = 1 ∨ fx l2 = [59] then .ok (t, nx l2) else if fx l2 = [125] then .ok (t, l2) else .error (refE l2)) = bnd (simpleP R reOk l) fun t l2 => bnd (endP l2) fun _ l3 => .ok (t, l3) := by
 congr 1
 funext t l2
 unfold endP
 split
 ·
  rfl
 ·
  split <;> rfl
theorem while_eq (R : Rc) (S : List Tok → TR PT) (l : List Tok) : (bnd (withinP [40] (R.E false) [41] l) fun c l2 => bnd (bodyP S l2) fun b l3 => .ok (nd [119, 104, 105, 108, 101] [c, b], l3)) = bnd (withinP [40] (singleP (R.E false)) [41] l) fun ts l2 => bnd (bodyP S l2) fun b l3 => .ok (nd [119, 104, 105, 108, 101] (ts ++ [b]), l3) := by
 rw [within_single, bnd_assoc]
 simp only [bnd_ok]
 rfl
set_option maxHeartbeats 8000000 in
set_option maxRecDepth 100000 in
theorem pstmt_any {reOk : List UInt8 → Bool} {K : Ps} {m : Nat} (HRe : ReOk reOk) (IS : OkS reOk K m) (dp : Nat) (l : List Tok) (er : ErO) (w : World) (hd : dp ≤ 50) (hl : l.length ≤ m) (h : Pst w K l dp false er) :
  Calls Tryz.prog 53 #[.pointer (some ⟨K.b, 0, none⟩)] w (NdPost K w w.heap.size l (stP reOk (50 - dp) l) dp false er) := by
 by_cases h50 : dp = 50
 ·
  subst h50
  have HSP : Hid (stP reOk (50 - 50) l = .error (deepE l)) := kH rfl
  have HTL := kH h.tll
  have hf0 := (fx_lst h.tll).1
  have CE := kH (penter_deep K l false er)
  obtain ⟨e0, he0⟩ : ∃ e0, er.getD (deepE l) = e0 := ⟨_, rfl⟩
  have CC := kH (pcomes_any K (lst l) 51 false (some e0) [123])
  have C1 := kH (ptake_any K (lst l) 51 false (some e0) [59])
  have C2 := kH (ptake_any K (lst l) 51 false (some e0) [105, 102])
  have C3 := kH (ptake_any K (lst l) 51 false (some e0) [119, 104, 105, 108, 101])
  have C4 := kH (ptake_any K (lst l) 51 false (some e0) [102, 111, 114])
  rw [hf0, decide_eq_false (by simp)] at CC
  rw [hf0, if_neg (by simp), decide_eq_false (by simp)] at C1 C2 C3 C4
  have HE0 := kH he0
  rw [he0] at CE
  have HLL := kH (lst_len h.ne)
  have CS := kH fun W hW => psimple_dead (K := K) HRe (lst l) e0 W HLL.out hW
  have CZ := kH fun W hW => pend_any K (lst l) 51 false (some e0) W hW
  have CL := kH fun l1 er1 u W hW => pleave_d K l1 50 false er1 (by decide) u W hW
  have HK : Hid (K.b < w.heap.size ∧ K.g < w.heap.size) := kH ⟨h.lt, h.glt⟩
  have HNZ : Hid (w.heap.size ≠ K.b) := kH (by have := HK.out; omega)
  have HN := kH (BlkA.new0 w)
  have H0 := kH ((Mv.refl h).alloc zN)
  have HSZ : Hid (w.heap.size + 1 = (w.alloc zN).heap.size) := kH (by simp)
  clear HRe IS hd hl h hf0 he0
  go_enter_defers Tryz.func53, Tryz.ntmps53
  go_wp2_with fail
  generalize w.alloc zN = w0 at *
  refine (CE.out _ H0.out.st).mono ?_
  rintro e w1 ⟨rfl, m1⟩
  have HN := kH (HN.out.onl m1.2 HNZ.out)
  have H1 := kH (H0.out.trans m1)
  clear m1
  go_wp2_with fail
  refine (CC.out _ H1.out.st).mono ?_
  rintro e w2 ⟨rfl, m2⟩
  have HN := kH (HN.out.onl m2.2 HNZ.out)
  have H2 := kH (H1.out.trans m2)
  clear m2
  go_wp2_with fail
  refine (C1.out _ H2.out.st).mono ?_
  rintro e w3 ⟨rfl, m3⟩
  have HN := kH (HN.out.onl m3.2 HNZ.out)
  have H3 := kH (H2.out.trans m3)
  clear m3
  go_wp2_with fail
  refine (C2.out _ H3.out.st).mono ?_
  rintro e w4 ⟨rfl, m4⟩
  have HN := kH (HN.out.onl m4.2 HNZ.out)
  have H4 := kH (H3.out.trans m4)
  clear m4
  go_wp2_with fail
  refine (C3.out _ H4.out.st).mono ?_
  rintro e w5 ⟨rfl, m5⟩
  have HN := kH (HN.out.onl m5.2 HNZ.out)
  have H5 := kH (H4.out.trans m5)
  clear m5
  go_wp2_with fail
  refine (C4.out _ H5.out.st).mono ?_
  rintro e w6 ⟨rfl, m6⟩
  have HN := kH (HN.out.onl m6.2 HNZ.out)
  have H6 := kH (H5.out.trans m6)
  clear m6
  go_wp2_with fail
  have HLT := kH HN.out.lt
  refine (CS.out _ H6.out.st).mono ?_
  rintro e w7 ⟨t, n, rfl, m7, tr3⟩
  have HN := kH (HN.out.onl m7.2 HNZ.out)
  have H7 := kH (H6.out.trans m7)
  have HT1 := kH (tr3.low (B1 := w.heap.size + 1) (by have := HLT.out; omega))
  clear m7 tr3
  unfold An.val
  have HBHV : Hid (w7.heap.size ≠ K.b) := kH (by have := H7.out.st.lt; omega)
  have HN := kH (HN.out.alloc (nB n))
  have HT1 := kH (HT1.out.below ((Below.refl _ _).alloc (Nat.le_refl _) (nB n)))
  have HV := kH (BlkA.new w7 n)
  have H7 := kH (H7.out.alloc (nB n))
  go_wp2_with fail
  have HLT := kH HN.out.lt
  refine (CZ.out _ H7.out.st).mono ?_
  rintro e w8 ⟨l2, er2, rfl, r8, m8⟩
  have HN := kH (HN.out.onl m8.2 HNZ.out)
  have HT1 := kH (HT1.out.onl m8.2 (by have := HK.out; omega))
  have HV := kH (HV.out.onl m8.2 HBHV.out)
  have HR8 := kH r8
  have H8 := kH (H7.out.trans m8)
  clear m8 r8
  obtain ⟨v0, v1, v2, v3, vk0, vk1, vk2, vk3⟩ := HV.out.cells
  obtain ⟨z0, z1, z2, z3, zk0, zk1, zk2, zk3⟩ := HN.out.cells
  go_wp2_with fail
  have HPD := kH (BlkA.putA HN.out n)
  have HMD := kH (Mv.putA H8.out (Nat.le_refl _) HK.out n)
  have HTD := kH (TreeP.putA (HT1.out) (g := w.heap.size) (fun k hk _ => by omega) n)
  refine leaves_cons (f := 65) (args := #[.pointer (some ⟨K.b, 0, none⟩)]) (by simp) (by simp [go_sem]) ?_
  refine (CL.out _ _ .returning _ HMD.out.st).mono ?_
  rintro e u' w9 ⟨rfl, rfl, m9⟩
  obtain ⟨y0, y1, y2, y3, yk0, yk1, yk2, yk3⟩ := (HPD.out.onl m9.2 HNZ.out).cells
  exact ⟨An.val n, by simp [results, Tryz.results53, go_sem, An.val, y0, y1, y2, y3], _, _, _, _, rfl, by rw [HSP.out]; have := HR8.out; rw [← HE0.out] at this; exact Res.dead this HTL.out.ne rfl, HMD.out.trans m9, (HTD.out.onl m9.2 (by have := HK.out; omega)).low (Nat.le_succ _)⟩
 ·
  obtain ⟨k, hk⟩ : ∃ k, 50 - dp = k + 1 := ⟨49 - dp, by omega⟩
  have HSP : Hid (stP reOk (50 - dp) l = stmtP (rcP reOk (50 - (dp + 1))) (stP reOk (50 - (dp + 1))) reOk l) := kH (by rw [hk, show 50 - (dp + 1) = k from by omega]; rfl)
  have hdp : dp < 50 := by omega
  have hd1 : dp + 1 ≤ 50 := by omega
  have CE := kH (penter_any K l dp false er hdp)
  have CL := kH fun l1 er1 u W hW => pleave_d K l1 dp false er1 (by omega) u W hW
  have CC := kH (pcomes_any K l (dp + 1) false er [123])
  have C1 := kH (ptake_any K l (dp + 1) false er [59])
  have C2 := kH (ptake_any K l (dp + 1) false er [105, 102])
  have C3 := kH (ptake_any K l (dp + 1) false er [119, 104, 105, 108, 101])
  have C4 := kH (ptake_any K l (dp + 1) false er [102, 111, 114])
  have CB := kH fun W (hc : fx l = [123]) hW => pblock_any IS (dp + 1) l er W hd1 (.inr ⟨hc, hl⟩) hW
  have CI := kH fun W hn hW => pchoice_any HRe IS (dp + 1) (nx l) er W hd1 hn hW
  have CF := kH fun W hn hW => ploop_any HRe IS (dp + 1) (nx l) er W hd1 hn hW
  have CW := kH fun W hn hW => pwithin_any (K := K) (f := 67) cfS (G := singleP ((rcP reOk (50 - (dp + 1))).E false)) (l := nx l) (m := m) (fun l2 er2 W2 _ h2 hw => psingle_any (pexpr_all HRe m).1 (dp + 1) false l2 er2 W2 hd1 h2 hw) [40] [41] false er W (.inl hn) hW
  have CD := kH fun l1 er1 W (hs : l1.length < m) hW => pbody_any IS (dp + 1) l1 er1 W hd1 hs hW
  have CS := kH fun W hW => psimple_any (K := K) HRe (dp + 1) l er W hd1 hW
  have CZ := kH fun l1 er1 W hW => pend_any K l1 (dp + 1) false er1 W hW
  have CM := kH fun o p n c W => pnode_any o p n c W
  have HLM := kH hl
  have HNL : Hid (fx l ≠ [] → (nx l).length < m) := kH (fun hf => by have := h.tll.nx.2.2.2 (fx_kind rfl hf); omega)
  have HTL := kH h.tll.nx
  have HNE := kH h.ne
  have HLN : Hid (l.length ≤ 5000) := kH (by have := h.pos; omega)
  obtain ⟨i0, hi, hz0, hz1, hz2⟩ := info_parts Tryz.infoAst
  have HK : Hid (K.b < w.heap.size ∧ K.g < w.heap.size) := kH ⟨h.lt, h.glt⟩
  have HNZ : Hid (w.heap.size ≠ K.b) := kH (by have := HK.out; omega)
  have HN := kH (BlkA.new0 w)
  have H0 := kH ((Mv.refl h).alloc zN)
  have HSZ : Hid (w.heap.size + 1 = (w.alloc zN).heap.size) := kH (by simp)
  clear HRe IS hd hl h h50 hk hdp hd1
  by_cases hc0 : fx l = [123]
  ·
   have HY := kH hc0
   rw [decide_eq_true hc0] at CC
   clear hc0
   go_enter_defers Tryz.func53, Tryz.ntmps53
   go_wp2_with fail
   generalize w.alloc zN = w0 at *
   refine (CE.out _ H0.out.st).mono ?_
   rintro e w1 ⟨rfl, m1⟩
   have HN := kH (HN.out.onl m1.2 HNZ.out)
   have H1 := kH (H0.out.trans m1)
   clear m1
   go_wp2_with fail
   refine (CC.out _ H1.out.st).mono ?_
   rintro e w2 ⟨rfl, m2⟩
   have HN := kH (HN.out.onl m2.2 HNZ.out)
   have H2 := kH (H1.out.trans m2)
   clear m2
   go_wp2_with fail
   have HLT := kH HN.out.lt
   refine (CB.out _ HY.out H2.out.st).mono ?_
   rintro e w3 ⟨t, n, l5, er5, rfl, r3, m3, tr5⟩
   have HN := kH (HN.out.onl m3.2 HNZ.out)
   have HR3 := kH r3
   have HT5 := kH (tr5.low (B1 := w.heap.size + 1) (by have := HLT.out; omega))
   have H3 := kH (H2.out.trans m3)
   clear m3 r3 tr5
   unfold An.val
   obtain ⟨z0, z1, z2, z3, zk0, zk1, zk2, zk3⟩ := HN.out.cells
   go_wp2_with fail
   have HPD := kH (BlkA.putA HN.out n)
   have HMD := kH (Mv.putA H3.out (Nat.le_refl _) HK.out n)
   have HTD := kH (TreeP.putA (HT5.out) (g := w.heap.size) (fun k hk _ => by omega) n)
   refine leaves_cons (f := 65) (args := #[.pointer (some ⟨K.b, 0, none⟩)]) (by simp) (by simp [go_sem]) ?_
   refine (CL.out _ _ .returning _ HMD.out.st).mono ?_
   rintro e u' w9 ⟨rfl, rfl, m9⟩
   obtain ⟨y0, y1, y2, y3, yk0, yk1, yk2, yk3⟩ := (HPD.out.onl m9.2 HNZ.out).cells
   exact ⟨An.val n, by simp [results, Tryz.results53, go_sem, An.val, y0, y1, y2, y3], _, _, _, _, rfl, by rw [HSP.out]; unfold stmtP; rw [if_pos HY.out]; exact HR3.out, HMD.out.trans m9, (HTD.out.onl m9.2 (by have := HK.out; omega)).low (Nat.le_succ _)⟩
  ·
   have HN0 := kH hc0
   rw [decide_eq_false hc0] at CC
   clear hc0
   by_cases hc1 : fx l = [59]
   ·
    have HY := kH hc1
    have HNM := kH (HNL.out (by rw [hc1]; simp))
    rw [if_pos hc1, decide_eq_true hc1] at C1
    clear hc1
    go_enter_defers Tryz.func53, Tryz.ntmps53
    go_wp2_with fail
    generalize w.alloc zN = w0 at *
    refine (CE.out _ H0.out.st).mono ?_
    rintro e w1 ⟨rfl, m1⟩
    have HN := kH (HN.out.onl m1.2 HNZ.out)
    have H1 := kH (H0.out.trans m1)
    clear m1
    go_wp2_with fail
    refine (CC.out _ H1.out.st).mono ?_
    rintro e w2 ⟨rfl, m2⟩
    have HN := kH (HN.out.onl m2.2 HNZ.out)
    have H2 := kH (H1.out.trans m2)
    clear m2
    go_wp2_with fail
    refine (C1.out _ H2.out.st).mono ?_
    rintro e w3 ⟨rfl, m3⟩
    have HN := kH (HN.out.onl m3.2 HNZ.out)
    have H3 := kH (H2.out.trans m3)
    clear m3
    go_wp2_with fail
    refine (CM.out _ _ _ _ _).mono ?_
    rintro e w4 ⟨rfl, hb4⟩
    have HN := kH (HN.out.below hb4)
    have H4 := kH (H3.out.below hb4)
    clear hb4
    unfold An.val
    obtain ⟨z0, z1, z2, z3, zk0, zk1, zk2, zk3⟩ := HN.out.cells
    go_wp2_with fail
    have HPD := kH (BlkA.putA HN.out ⟨bs [101, 109, 112, 116, 121], ⟨#[]⟩, 0, none, 0, 0⟩)
    have HMD := kH (Mv.putA H4.out (Nat.le_refl _) HK.out ⟨bs [101, 109, 112, 116, 121], ⟨#[]⟩, 0, none, 0, 0⟩)
    have HTD := kH (TreeP.putA (TreeP.leaf w4 (fun k => w.heap.size + 1 ≤ k) [101, 109, 112, 116, 121] [] 0) (g := w.heap.size) (fun k hk _ => by omega) ⟨bs [101, 109, 112, 116, 121], ⟨#[]⟩, 0, none, 0, 0⟩)
    refine leaves_cons (f := 65) (args := #[.pointer (some ⟨K.b, 0, none⟩)]) (by simp) (by simp [go_sem]) ?_
    refine (CL.out _ _ .returning _ HMD.out.st).mono ?_
    rintro e u' w9 ⟨rfl, rfl, m9⟩
    obtain ⟨y0, y1, y2, y3, yk0, yk1, yk2, yk3⟩ := (HPD.out.onl m9.2 HNZ.out).cells
    exact ⟨An.val ⟨bs [101, 109, 112, 116, 121], ⟨#[]⟩, 0, none, 0, 0⟩, by simp [results, Tryz.results53, go_sem, An.val, y0, y1, y2, y3], _, _, _, _, rfl, by rw [HSP.out]; unfold stmtP; rw [if_neg HN0.out, if_pos HY.out]; exact Res.ret' HTL.out.1 HTL.out.2.1, HMD.out.trans m9, (HTD.out.onl m9.2 (by have := HK.out; omega)).low (Nat.le_succ _)⟩
   ·
    have HN1 := kH hc1
    rw [if_neg hc1, decide_eq_false hc1] at C1
    clear hc1
    by_cases hc2 : fx l = [105, 102]
    ·
     have HY := kH hc2
     have HNM := kH (HNL.out (by rw [hc2]; simp))
     rw [if_pos hc2, decide_eq_true hc2] at C2
     clear hc2
     go_enter_defers Tryz.func53, Tryz.ntmps53
     go_wp2_with fail
     generalize w.alloc zN = w0 at *
     refine (CE.out _ H0.out.st).mono ?_
     rintro e w1 ⟨rfl, m1⟩
     have HN := kH (HN.out.onl m1.2 HNZ.out)
     have H1 := kH (H0.out.trans m1)
     clear m1
     go_wp2_with fail
     refine (CC.out _ H1.out.st).mono ?_
     rintro e w2 ⟨rfl, m2⟩
     have HN := kH (HN.out.onl m2.2 HNZ.out)
     have H2 := kH (H1.out.trans m2)
     clear m2
     go_wp2_with fail
     refine (C1.out _ H2.out.st).mono ?_
     rintro e w3 ⟨rfl, m3⟩
     have HN := kH (HN.out.onl m3.2 HNZ.out)
     have H3 := kH (H2.out.trans m3)
     clear m3
     go_wp2_with fail
     refine (C2.out _ H3.out.st).mono ?_
     rintro e w4 ⟨rfl, m4⟩
     have HN := kH (HN.out.onl m4.2 HNZ.out)
     have H4 := kH (H3.out.trans m4)
     clear m4
     go_wp2_with fail
     have HLT := kH HN.out.lt
     refine (CI.out _ HNM.out H4.out.st).mono ?_
     rintro e w5 ⟨t, n, l5, er5, rfl, r5, m5, tr5⟩
     have HN := kH (HN.out.onl m5.2 HNZ.out)
     have HR5 := kH r5
     have HT5 := kH (tr5.low (B1 := w.heap.size + 1) (by have := HLT.out; omega))
     have H5 := kH (H4.out.trans m5)
     clear m5 r5 tr5
     unfold An.val
     obtain ⟨z0, z1, z2, z3, zk0, zk1, zk2, zk3⟩ := HN.out.cells
     go_wp2_with fail
     have HPD := kH (BlkA.putA HN.out n)
     have HMD := kH (Mv.putA H5.out (Nat.le_refl _) HK.out n)
     have HTD := kH (TreeP.putA (HT5.out) (g := w.heap.size) (fun k hk _ => by omega) n)
     refine leaves_cons (f := 65) (args := #[.pointer (some ⟨K.b, 0, none⟩)]) (by simp) (by simp [go_sem]) ?_
     refine (CL.out _ _ .returning _ HMD.out.st).mono ?_
     rintro e u' w9 ⟨rfl, rfl, m9⟩
     obtain ⟨y0, y1, y2, y3, yk0, yk1, yk2, yk3⟩ := (HPD.out.onl m9.2 HNZ.out).cells
     exact ⟨An.val n, by simp [results, Tryz.results53, go_sem, An.val, y0, y1, y2, y3], _, _, _, _, rfl, by rw [HSP.out]; unfold stmtP; rw [if_neg HN0.out, if_neg HN1.out, if_pos HY.out]; exact HR5.out.pre HTL.out.1, HMD.out.trans m9, (HTD.out.onl m9.2 (by have := HK.out; omega)).low (Nat.le_succ _)⟩
    ·
     have HN2 := kH hc2
     rw [if_neg hc2, decide_eq_false hc2] at C2
     clear hc2
     by_cases hc3 : fx l = [119, 104, 105, 108, 101]
     ·
      have HY := kH hc3
      have HNM := kH (HNL.out (by rw [hc3]; simp))
      rw [if_pos hc3, decide_eq_true hc3] at C3
      clear hc3
      go_enter_defers Tryz.func53, Tryz.ntmps53
      go_wp2_with fail
      generalize w.alloc zN = w0 at *
      refine (CE.out _ H0.out.st).mono ?_
      rintro e w1 ⟨rfl, m1⟩
      have HN := kH (HN.out.onl m1.2 HNZ.out)
      have H1 := kH (H0.out.trans m1)
      clear m1
      go_wp2_with fail
      refine (CC.out _ H1.out.st).mono ?_
      rintro e w2 ⟨rfl, m2⟩
      have HN := kH (HN.out.onl m2.2 HNZ.out)
      have H2 := kH (H1.out.trans m2)
      clear m2
      go_wp2_with fail
      refine (C1.out _ H2.out.st).mono ?_
      rintro e w3 ⟨rfl, m3⟩
      have HN := kH (HN.out.onl m3.2 HNZ.out)
      have H3 := kH (H2.out.trans m3)
      clear m3
      go_wp2_with fail
      refine (C2.out _ H3.out.st).mono ?_
      rintro e w4 ⟨rfl, m4⟩
      have HN := kH (HN.out.onl m4.2 HNZ.out)
      have H4 := kH (H3.out.trans m4)
      clear m4
      go_wp2_with fail
      refine (C3.out _ H4.out.st).mono ?_
      rintro e w5 ⟨rfl, m5⟩
      have HN := kH (HN.out.onl m5.2 HNZ.out)
      have H5 := kH (H4.out.trans m5)
      clear m5
      go_wp2_with fail
      have HLT := kH HN.out.lt
      refine (CW.out _ HNM.out H5.out.st).mono ?_
      rintro e w6 ⟨ts, ns, p, c, l1, er1, rfl, r6, m6, rw1, ln1⟩
      have HN := kH (HN.out.onl m6.2 HNZ.out)
      have HR6 := kH r6
      have HRW := kH (rw1.low (n1 := w.heap.size + 1) (by have := HLT.out; omega))
      have HNS : Hid (ns.length ≤ 5500) := kH (by have := HLN.out; have := HNM.out; have := HLM.out; have := HTL.out.1.length_le; omega)
      have HL1 : Hid (l1.length < m) := kH (by have := r6.suf.length_le; have := HNM.out; omega)
      have H6 := kH (H5.out.trans m6)
      clear m6 r6 rw1 ln1
      go_wp2_with fail
      have HRV : Hid (∀ g, (Value.slice p (ns.length) c).ownBlock = some g → w.heap.size + 1 ≤ g ∧ g < w6.heap.size) := kH (rg_own_base HRW.out.own)
      have HRB : Hid (w.heap.size + 1 ≤ w6.heap.size) := kH HN.out.lt
      have HLT := kH HN.out.lt
      refine (CD.out _ _ _ HL1.out H6.out.st).mono ?_
      rintro e w7 ⟨t, n, l2, er2, rfl, r7, m7, tr2⟩
      have HN := kH (HN.out.onl m7.2 HNZ.out)
      have HRW := kH (HRW.out.onl m7.2 (by have := HK.out; omega))
      have HR7 := kH r7
      have HT2 := kH tr2
      have H7 := kH (H6.out.trans m7)
      clear m7 r7 tr2
      unfold An.val
      have HOW : Hid (w7.ownsRow (w.heap.size + 1) 25 4 (.slice p (ns.length) c) (ns.length) (anRow (ns))) := kH HRW.out.own
      have HLT := kH HN.out.lt
      go_wp2_with (at_builtin; refine wpList_append_own_at _ rfl (.tmp 27) (.tmp 30) 23 rfl (w.heap.size + 1) 25 i0 (.agg #[.string ⟨#[]⟩, .string ⟨#[]⟩, .int .i64 0, .slice none 0 0]) 4 64 Tryz.underlying23 hi hz0 hz1 hz2 rfl (by decide) (.slice p (ns.length) c) (ns.length) (anRow (ns)) rfl (HOW.out.alloc _) ⟨w7.heap.size, 0, none⟩ 1 1 (An.vals n) rfl rfl ?c1 ?c2 ?c3 ?c4 ?c5 ?_)
      case c1 => exact an_new w7 n
      case c2 => simp [An.vals, Value.oneCell']
      case c3 => have := HNS.out; unfold maxLen; omega
      case c4 => have := HNS.out; omega
      case c5 => have := HLT.out; simp; omega
      intro v8 w8 hown hgrow _ hat
      obtain ⟨g8, c8, rfl, hc9⟩ := rg_own_succ hown
      have hA := RwA.app HRW.out HT2.out (fun g hg => (HRV.out g hg).2) (HRB.out) hgrow hat hown
      have hM := Mv.app H7.out HK.out (fun g hg => by have := (HRV.out g hg).1; omega) hgrow
      have hN : BlkA w8 w.heap.size An.zero := ((grown_at hgrow (by have := HLT.out; simp; omega) (fun e => by have := (HRV.out _ e).1; omega)).trans (Below.heap_alloc w7 _ _ HLT.out)).trans HN.out
      have hL : (ns ++ [n]).length = ns.length + 1 := by rw [List.length_append, List.length_singleton]
      have H8 := kH hM
      have HN := kH hN
      have HRW := kH hA
      have HLHRW := kH hL
      clear hA hM hN hL hown hgrow hat hc9 HOW HRV HRB
      go_wp2_with fail
      refine (CM.out _ _ _ _ _).mono ?_
      rintro e w9 ⟨rfl, hb9⟩
      have HRW := kH (HRW.out.below hb9)
      have HN := kH (HN.out.below hb9)
      have H9 := kH (H8.out.below hb9)
      clear hb9
      unfold An.val
      have HTF : Hid (TreeP w9 (fun k => w.heap.size + 1 ≤ k) (nd [119, 104, 105, 108, 101] (ts ++ [t])) ⟨bs [119, 104, 105, 108, 101], ⟨#[]⟩, 0, (some ⟨g8, 0, none⟩), ns.length + 1, c8⟩) := kH (by have := RwA.nd (by have := HRW.out; rw [← HLHRW.out] at this; exact this) [119, 104, 105, 108, 101]; rw [HLHRW.out] at this; exact this)
      obtain ⟨z0, z1, z2, z3, zk0, zk1, zk2, zk3⟩ := HN.out.cells
      go_wp2_with fail
      have HPD := kH (BlkA.putA HN.out ⟨bs [119, 104, 105, 108, 101], ⟨#[]⟩, 0, (some ⟨g8, 0, none⟩), ns.length + 1, c8⟩)
      have HMD := kH (Mv.putA H9.out (Nat.le_refl _) HK.out ⟨bs [119, 104, 105, 108, 101], ⟨#[]⟩, 0, (some ⟨g8, 0, none⟩), ns.length + 1, c8⟩)
      have HTD := kH (TreeP.putA (HTF.out) (g := w.heap.size) (fun k hk _ => by omega) ⟨bs [119, 104, 105, 108, 101], ⟨#[]⟩, 0, (some ⟨g8, 0, none⟩), ns.length + 1, c8⟩)
      refine leaves_cons (f := 65) (args := #[.pointer (some ⟨K.b, 0, none⟩)]) (by simp) (by simp [go_sem]) ?_
      refine (CL.out _ _ .returning _ HMD.out.st).mono ?_
      rintro e u' w9 ⟨rfl, rfl, m9⟩
      obtain ⟨y0, y1, y2, y3, yk0, yk1, yk2, yk3⟩ := (HPD.out.onl m9.2 HNZ.out).cells
      exact ⟨An.val ⟨bs [119, 104, 105, 108, 101], ⟨#[]⟩, 0, (some ⟨g8, 0, none⟩), ns.length + 1, c8⟩, by simp [results, Tryz.results53, go_sem, An.val, y0, y1, y2, y3], _, _, _, _, rfl, by rw [HSP.out]; unfold stmtP; rw [if_neg HN0.out, if_neg HN1.out, if_neg HN2.out, if_pos HY.out]; exact by rw [while_eq]; exact (HR6.out.bnd (HR7.out.bnd (Res.ret HR7.out.ne))).pre HTL.out.1, HMD.out.trans m9, (HTD.out.onl m9.2 (by have := HK.out; omega)).low (Nat.le_succ _)⟩
     ·
      have HN3 := kH hc3
      rw [if_neg hc3, decide_eq_false hc3] at C3
      clear hc3
      by_cases hc4 : fx l = [102, 111, 114]
      ·
       have HY := kH hc4
       have HNM := kH (HNL.out (by rw [hc4]; simp))
       rw [if_pos hc4, decide_eq_true hc4] at C4
       clear hc4
       go_enter_defers Tryz.func53, Tryz.ntmps53
       go_wp2_with fail
       generalize w.alloc zN = w0 at *
       refine (CE.out _ H0.out.st).mono ?_
       rintro e w1 ⟨rfl, m1⟩
       have HN := kH (HN.out.onl m1.2 HNZ.out)
       have H1 := kH (H0.out.trans m1)
       clear m1
       go_wp2_with fail
       refine (CC.out _ H1.out.st).mono ?_
       rintro e w2 ⟨rfl, m2⟩
       have HN := kH (HN.out.onl m2.2 HNZ.out)
       have H2 := kH (H1.out.trans m2)
       clear m2
       go_wp2_with fail
       refine (C1.out _ H2.out.st).mono ?_
       rintro e w3 ⟨rfl, m3⟩
       have HN := kH (HN.out.onl m3.2 HNZ.out)
       have H3 := kH (H2.out.trans m3)
       clear m3
       go_wp2_with fail
       refine (C2.out _ H3.out.st).mono ?_
       rintro e w4 ⟨rfl, m4⟩
       have HN := kH (HN.out.onl m4.2 HNZ.out)
       have H4 := kH (H3.out.trans m4)
       clear m4
       go_wp2_with fail
       refine (C3.out _ H4.out.st).mono ?_
       rintro e w5 ⟨rfl, m5⟩
       have HN := kH (HN.out.onl m5.2 HNZ.out)
       have H5 := kH (H4.out.trans m5)
       clear m5
       go_wp2_with fail
       refine (C4.out _ H5.out.st).mono ?_
       rintro e w6 ⟨rfl, m6⟩
       have HN := kH (HN.out.onl m6.2 HNZ.out)
       have H6 := kH (H5.out.trans m6)
       clear m6
       go_wp2_with fail
       have HLT := kH HN.out.lt
       refine (CF.out _ HNM.out H6.out.st).mono ?_
       rintro e w7 ⟨t, n, l5, er5, rfl, r7, m7, tr5⟩
       have HN := kH (HN.out.onl m7.2 HNZ.out)
       have HR7 := kH r7
       have HT5 := kH (tr5.low (B1 := w.heap.size + 1) (by have := HLT.out; omega))
       have H7 := kH (H6.out.trans m7)
       clear m7 r7 tr5
       unfold An.val
       obtain ⟨z0, z1, z2, z3, zk0, zk1, zk2, zk3⟩ := HN.out.cells
       go_wp2_with fail
       have HPD := kH (BlkA.putA HN.out n)
       have HMD := kH (Mv.putA H7.out (Nat.le_refl _) HK.out n)
       have HTD := kH (TreeP.putA (HT5.out) (g := w.heap.size) (fun k hk _ => by omega) n)
       refine leaves_cons (f := 65) (args := #[.pointer (some ⟨K.b, 0, none⟩)]) (by simp) (by simp [go_sem]) ?_
       refine (CL.out _ _ .returning _ HMD.out.st).mono ?_
       rintro e u' w9 ⟨rfl, rfl, m9⟩
       obtain ⟨y0, y1, y2, y3, yk0, yk1, yk2, yk3⟩ := (HPD.out.onl m9.2 HNZ.out).cells
       exact ⟨An.val n, by simp [results, Tryz.results53, go_sem, An.val, y0, y1, y2, y3], _, _, _, _, rfl, by rw [HSP.out]; unfold stmtP; rw [if_neg HN0.out, if_neg HN1.out, if_neg HN2.out, if_neg HN3.out, if_pos HY.out]; exact HR7.out.pre HTL.out.1, HMD.out.trans m9, (HTD.out.onl m9.2 (by have := HK.out; omega)).low (Nat.le_succ _)⟩
      ·
       have HN4 := kH hc4
       rw [if_neg hc4, decide_eq_false hc4] at C4
       clear hc4
       go_enter_defers Tryz.func53, Tryz.ntmps53
       go_wp2_with fail
       generalize w.alloc zN = w0 at *
       refine (CE.out _ H0.out.st).mono ?_
       rintro e w1 ⟨rfl, m1⟩
       have HN := kH (HN.out.onl m1.2 HNZ.out)
       have H1 := kH (H0.out.trans m1)
       clear m1
       go_wp2_with fail
       refine (CC.out _ H1.out.st).mono ?_
       rintro e w2 ⟨rfl, m2⟩
       have HN := kH (HN.out.onl m2.2 HNZ.out)
       have H2 := kH (H1.out.trans m2)
       clear m2
       go_wp2_with fail
       refine (C1.out _ H2.out.st).mono ?_
       rintro e w3 ⟨rfl, m3⟩
       have HN := kH (HN.out.onl m3.2 HNZ.out)
       have H3 := kH (H2.out.trans m3)
       clear m3
       go_wp2_with fail
       refine (C2.out _ H3.out.st).mono ?_
       rintro e w4 ⟨rfl, m4⟩
       have HN := kH (HN.out.onl m4.2 HNZ.out)
       have H4 := kH (H3.out.trans m4)
       clear m4
       go_wp2_with fail
       refine (C3.out _ H4.out.st).mono ?_
       rintro e w5 ⟨rfl, m5⟩
       have HN := kH (HN.out.onl m5.2 HNZ.out)
       have H5 := kH (H4.out.trans m5)
       clear m5
       go_wp2_with fail
       refine (C4.out _ H5.out.st).mono ?_
       rintro e w6 ⟨rfl, m6⟩
       have HN := kH (HN.out.onl m6.2 HNZ.out)
       have H6 := kH (H5.out.trans m6)
       clear m6
       go_wp2_with fail
       have HLT := kH HN.out.lt
       refine (CS.out _ H6.out.st).mono ?_
       rintro e w7 ⟨t, n, l1, er1, rfl, r7, m7, tr1⟩
       have HN := kH (HN.out.onl m7.2 HNZ.out)
       have HR7 := kH r7
       have HT1 := kH (tr1.low (B1 := w.heap.size + 1) (by have := HLT.out; omega))
       have H7 := kH (H6.out.trans m7)
       clear m7 r7 tr1
       unfold An.val
       have HBHV : Hid (w7.heap.size ≠ K.b) := kH (by have := H7.out.st.lt; omega)
       have HN := kH (HN.out.alloc (nB n))
       have HT1 := kH (HT1.out.below ((Below.refl _ _).alloc (Nat.le_refl _) (nB n)))
       have HV := kH (BlkA.new w7 n)
       have H7 := kH (H7.out.alloc (nB n))
       go_wp2_with fail
       have HLT := kH HN.out.lt
       refine (CZ.out _ _ _ H7.out.st).mono ?_
       rintro e w8 ⟨l2, er2, rfl, r8, m8⟩
       have HN := kH (HN.out.onl m8.2 HNZ.out)
       have HT1 := kH (HT1.out.onl m8.2 (by have := HK.out; omega))
       have HV := kH (HV.out.onl m8.2 HBHV.out)
       have HR8 := kH r8
       have H8 := kH (H7.out.trans m8)
       clear m8 r8
       obtain ⟨v0, v1, v2, v3, vk0, vk1, vk2, vk3⟩ := HV.out.cells
       obtain ⟨z0, z1, z2, z3, zk0, zk1, zk2, zk3⟩ := HN.out.cells
       go_wp2_with fail
       have HPD := kH (BlkA.putA HN.out n)
       have HMD := kH (Mv.putA H8.out (Nat.le_refl _) HK.out n)
       have HTD := kH (TreeP.putA (HT1.out) (g := w.heap.size) (fun k hk _ => by omega) n)
       refine leaves_cons (f := 65) (args := #[.pointer (some ⟨K.b, 0, none⟩)]) (by simp) (by simp [go_sem]) ?_
       refine (CL.out _ _ .returning _ HMD.out.st).mono ?_
       rintro e u' w9 ⟨rfl, rfl, m9⟩
       obtain ⟨y0, y1, y2, y3, yk0, yk1, yk2, yk3⟩ := (HPD.out.onl m9.2 HNZ.out).cells
       exact ⟨An.val n, by simp [results, Tryz.results53, go_sem, An.val, y0, y1, y2, y3], _, _, _, _, rfl, by rw [HSP.out]; unfold stmtP; rw [if_neg HN0.out, if_neg HN1.out, if_neg HN2.out, if_neg HN3.out, if_neg HN4.out]; exact by rw [stmt_end]; exact HR7.out.bnd (HR8.out.bnd (Res.ret HR8.out.ne)), HMD.out.trans m9, (HTD.out.onl m9.2 (by have := HK.out; omega)).low (Nat.le_succ _)⟩
theorem pstmt_all {reOk : List UInt8 → Bool} {K : Ps} (HRe : ReOk reOk) : ∀ m : Nat, OkS reOk K m
 | 0 => fun _ _ _ _ _ hl _ => absurd hl (Nat.not_lt_zero _)
 | m + 1 => fun dp l er W hd hl h => pstmt_any HRe (pstmt_all HRe m) dp l er W hd (Nat.le_of_lt_succ hl) h
end Go.Proofs.YtmbfdkiejneheaaGreatDoor
