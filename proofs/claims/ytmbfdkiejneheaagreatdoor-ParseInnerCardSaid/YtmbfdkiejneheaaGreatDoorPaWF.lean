/-
 CONTRACTS of layer 13's expression.
-/
import Derived.Test.YtmbfdkiejneheaaGreatDoorPaWE
namespace Go.Proofs.YtmbfdkiejneheaaGreatDoor
open Go.RowKit

/-- No panic. -/
def NoP (Q : Exit → Act → World → Prop) (e : Exit) (a : Act) (w : World) : Prop := (∀ c, e ≠ .panic c) ∧ Q e a w
theorem TreeP.twoG {w : World} {B : Nat → Prop} {t u : PT} {n m : An} (ht : TreeP w B t n) (hu : TreeP w B u m) (hB : B w.heap.size) (op tx : List UInt8) (pl : Nat) :
  TreeP (w.alloc (nB2 n m)) B (.mk op tx pl [t, u]) ⟨bs op, bs tx, (pl : Int), some ⟨w.heap.size, 0, none⟩, 2, 2⟩ := by
 have h := TreeP.two ht hu hB op
 unfold nd TreeP at h
 unfold TreeP
 obtain ⟨_, _, _, ns, h3, h4, h5⟩ := h
 exact ⟨rfl, rfl, rfl, ns, h3, h4, h5⟩
set_option maxHeartbeats 8000000 in
set_option maxRecDepth 100000 in
theorem pexpr_any {reOk : List UInt8 → Bool} {K : Ps} {m : Nat} (HRe : ReOk reOk) (IE : OkE reOk K m 59 fun R pr => R.E pr) (IP : OkN reOk K m 124 fun R _ => primP reOk R) (IU : OkN reOk K m 119 fun R _ => unaryP reOk R) (dp : Nat) (pr : Bool) (l : List Tok) (er : ErO) (w : World) (hd : dp ≤ 50) (hl : l.length ≤ m) (h : Pst w K l dp pr er) :
  Calls Tryz.prog 59 #[.pointer (some ⟨K.b, 0, none⟩)] w (NdPost K w w.heap.size l ((rcP reOk (50 - dp)).E pr l) dp pr er) := by
 by_cases h50 : dp = 50
 ·
  subst h50
  have HSP : Hid ((rcP reOk (50 - 50)).E pr l = .error (deepE l)) := kH rfl
  have HTL := kH h.tll
  have hd1 : DpOk 51 (lst l) := .inr ⟨by decide, lst_len h.ne⟩
  have hll : (lst l).length ≤ m := by have := lst_len h.ne; have := h.pos; omega
  have CE := kH (penter_deep K l pr er)
  have CO := kH fun W hW => por_any HRe IE IP IU 51 pr (lst l) (some (er.getD (deepE l))) W hd1 hll hW
  have CT := kH fun l1 er1 => ptake_any K l1 51 pr er1 [63]
  have CF := kH fun l1 er1 => pfix_any K l1 51 pr er1
  have CL := kH fun l1 er1 u W hW => pleave_d K l1 50 pr er1 (by decide) u W hW
  have HK : Hid (K.b < w.heap.size ∧ K.g < w.heap.size) := kH ⟨h.lt, h.glt⟩
  have HNZ : Hid (w.heap.size ≠ K.b) := kH (by have := HK.out; omega)
  have HN := kH (BlkA.new0 w)
  have H0 := kH ((Mv.refl h).alloc zN)
  have HSZ : Hid (w.heap.size + 1 = (w.alloc zN).heap.size) := kH (by simp)
  clear HRe IE IP IU hd hl h hd1 hll
  go_enter_defers Tryz.func59, Tryz.ntmps59
  go_wp2_with fail
  generalize w.alloc zN = w0 at *
  refine (CE.out _ H0.out.st).mono ?_
  rintro e w1 ⟨rfl, m1⟩
  have HN := kH (HN.out.onl m1.2 HNZ.out)
  have H1 := kH (H0.out.trans m1)
  clear m1
  go_wp2_with fail
  have HLT := kH HN.out.lt
  refine (CO.out _ H1.out.st).mono ?_
  rintro e w2 ⟨t, n, l1, er1, rfl, r2, m2, tr1⟩
  have HN := kH (HN.out.onl m2.2 HNZ.out)
  have HR2 := kH r2
  have HT1 := kH (tr1.low (B1 := w.heap.size + 1) (by have := HLT.out; omega))
  have H2 := kH (H1.out.trans m2)
  clear m2 r2 tr1
  have hl1 : l1 = lst l := by
   have h1 := HR2.out.suf
   exact h1.eq_of_length (by have h2 := h1.length_le; have h3 := lst_len HTL.out.ne; have h4 := List.length_pos_iff.2 HR2.out.ne; omega)
  have hf0 : fx l1 = [] := by rw [hl1]; exact (fx_lst HTL.out).1
  have CT := kH (CT.out l1 er1)
  have CF := kH (CF.out l1 er1)
  rw [hf0, if_neg (by simp), decide_eq_false (by simp)] at CT
  rw [hf0] at CF
  clear hl1 hf0
  unfold An.val
  have HBHV : Hid (w2.heap.size ≠ K.b) := kH (by have := H2.out.st.lt; omega)
  have HN := kH (HN.out.alloc (nB n))
  have HT1 := kH (HT1.out.below ((Below.refl _ _).alloc (Nat.le_refl _) (nB n)))
  have HV := kH (BlkA.new w2 n)
  have H2 := kH (H2.out.alloc (nB n))
  go_wp2_with fail
  refine (CT.out _ H2.out.st).mono ?_
  rintro e w3 ⟨rfl, m3⟩
  have HN := kH (HN.out.onl m3.2 HNZ.out)
  have HT1 := kH (HT1.out.onl m3.2 (by have := HK.out; omega))
  have HV := kH (HV.out.onl m3.2 HBHV.out)
  have H3 := kH (H2.out.trans m3)
  clear m3
  go_wp2_with fail
  refine (CF.out _ H3.out.st).mono ?_
  rintro e w4 ⟨rfl, m4⟩
  have HN := kH (HN.out.onl m4.2 HNZ.out)
  have HT1 := kH (HT1.out.onl m4.2 (by have := HK.out; omega))
  have HV := kH (HV.out.onl m4.2 HBHV.out)
  have H4 := kH (H3.out.trans m4)
  clear m4
  obtain ⟨v0, v1, v2, v3, vk0, vk1, vk2, vk3⟩ := HV.out.cells
  obtain ⟨z0, z1, z2, z3, zk0, zk1, zk2, zk3⟩ := HN.out.cells
  go_wp2_with fail
  have HPD := kH (BlkA.putA HN.out n)
  have HMD := kH (Mv.putA H4.out (Nat.le_refl _) HK.out n)
  have HTD := kH (TreeP.putA (HT1.out) (g := w.heap.size) (fun k hk _ => by omega) n)
  refine leaves_cons (f := 65) (args := #[.pointer (some ⟨K.b, 0, none⟩)]) (by simp) (by simp [go_sem]) ?_
  refine (CL.out _ _ .returning _ HMD.out.st).mono ?_
  rintro e u' w9 ⟨rfl, rfl, m9⟩
  obtain ⟨y0, y1, y2, y3, yk0, yk1, yk2, yk3⟩ := (HPD.out.onl m9.2 HNZ.out).cells
  exact ⟨An.val n, by simp [results, Tryz.results59, go_sem, An.val, y0, y1, y2, y3], _, _, _, _, rfl, by rw [HSP.out]; exact Res.dead HR2.out HTL.out.ne rfl, HMD.out.trans m9, (HTD.out.onl m9.2 (by have := HK.out; omega)).low (Nat.le_succ _)⟩
 ·
  obtain ⟨k, hk⟩ : ∃ k, 50 - dp = k + 1 := ⟨49 - dp, by omega⟩
  have HSP : Hid ((rcP reOk (50 - dp)).E pr l = exprP reOk (rcP reOk (50 - (dp + 1))) pr l) := kH (by rw [hk, show 50 - (dp + 1) = k from by omega]; rfl)
  have hdp : dp < 50 := by omega
  have hd1 : DpOk (dp + 1) l := .inl (by omega)
  have CE := kH (penter_any K l dp pr er hdp)
  have CO := kH fun W hW => por_any HRe IE IP IU (dp + 1) pr l er W hd1 hl hW
  have CT := kH fun l1 er1 => ptake_any K l1 (dp + 1) pr er1 [63]
  have CC := kH fun l1 er1 W hl1 hW a na B0 hB ha => pcond_any IE (dp + 1) pr l1 er1 W (by omega) hl1 hW a na B0 hB ha
  have CF := kH fun l1 er1 => pfix_any K l1 (dp + 1) pr er1
  have CN := kH fun l1 er1 => pnext_any K l1 (dp + 1) pr er1
  have CNL := kH fun l1 er1 => pnls_any K l1 (dp + 1) pr er1
  have CX := kH fun l1 er1 W hl1 hW => IE (dp + 1) pr l1 er1 W (by omega) hl1 hW
  have CI := kH fun t n hn W => pispl_any t n hn W
  have CL := kH fun l1 er1 u W hW => pleave_d K l1 dp pr er1 (by omega) u W hW
  have HLM := kH hl
  have HK : Hid (K.b < w.heap.size ∧ K.g < w.heap.size) := kH ⟨h.lt, h.glt⟩
  have HNZ : Hid (w.heap.size ≠ K.b) := kH (by have := HK.out; omega)
  have HN := kH (BlkA.new0 w)
  have H0 := kH ((Mv.refl h).alloc zN)
  have HSZ : Hid (w.heap.size + 1 = (w.alloc zN).heap.size) := kH (by simp)
  clear HRe IE IP IU hd hl h h50 hk hdp hd1
  go_enter_defers Tryz.func59, Tryz.ntmps59
  go_wp2_with fail
  generalize w.alloc zN = w0 at *
  refine (CE.out _ H0.out.st).mono ?_
  rintro e w1 ⟨rfl, m1⟩
  have HN := kH (HN.out.onl m1.2 HNZ.out)
  have H1 := kH (H0.out.trans m1)
  clear m1
  go_wp2_with fail
  have HLT := kH HN.out.lt
  refine (CO.out _ H1.out.st).mono ?_
  rintro e w2 ⟨t, n, l1, er1, rfl, r2, m2, tr1⟩
  have HN := kH (HN.out.onl m2.2 HNZ.out)
  have HR2 := kH r2
  have HT1 := kH (tr1.low (B1 := w.heap.size + 1) (by have := HLT.out; omega))
  have H2 := kH (H1.out.trans m2)
  clear m2 r2 tr1
  unfold An.val
  have HBHV : Hid (w2.heap.size ≠ K.b) := kH (by have := H2.out.st.lt; omega)
  have HN := kH (HN.out.alloc (nB n))
  have HT1 := kH (HT1.out.below ((Below.refl _ _).alloc (Nat.le_refl _) (nB n)))
  have HV := kH (BlkA.new w2 n)
  have H2 := kH (H2.out.alloc (nB n))
  go_wp2_with fail
  have HTL := kH H2.out.st.tll.nx
  have CT := kH (CT.out l1 er1)
  have CF := kH (CF.out l1 er1)
  have CN := kH (CN.out l1 er1)
  by_cases hq : fx l1 = [63]
  ·
   have HQ := kH hq
   have HLQ : Hid ((nx l1).length < m) := kH (by have := HTL.out.2.2.2 (fx_kind hq (by simp)); have := HR2.out.suf.length_le; have := HLM.out; omega)
   rw [if_pos hq, decide_eq_true hq] at CT
   clear hq
   refine (CT.out _ H2.out.st).mono ?_
   rintro e w3 ⟨rfl, m3⟩
   have HN := kH (HN.out.onl m3.2 HNZ.out)
   have HT1 := kH (HT1.out.onl m3.2 (by have := HK.out; omega))
   have HV := kH (HV.out.onl m3.2 HBHV.out)
   have H3 := kH (H2.out.trans m3)
   clear m3
   obtain ⟨v0, v1, v2, v3, vk0, vk1, vk2, vk3⟩ := HV.out.cells
   go_wp2_with fail
   have HLT := kH HN.out.lt
   refine (CC.out _ _ _ HLQ.out H3.out.st t n (w.heap.size + 1) (by have := HK.out; have := HN.out.lt; omega) HT1.out).mono ?_
   rintro e w4 ⟨t4, n4, l4, er4, rfl, r4, m4, tr4⟩
   have HN := kH (HN.out.onl m4.2 HNZ.out)
   have HT1 := kH (HT1.out.onl m4.2 (by have := HK.out; omega))
   have HV := kH (HV.out.onl m4.2 HBHV.out)
   have HR4 := kH r4
   have HT4 := kH tr4
   have H4 := kH (H3.out.trans m4)
   clear m4 r4 tr4
   unfold An.val
   obtain ⟨z0, z1, z2, z3, zk0, zk1, zk2, zk3⟩ := HN.out.cells
   go_wp2_with fail
   have HPD := kH (BlkA.putA HN.out n4)
   have HMD := kH (Mv.putA H4.out (Nat.le_refl _) HK.out n4)
   have HTD := kH (TreeP.putA (HT4.out) (g := w.heap.size) (fun k hk _ => by omega) n4)
   refine leaves_cons (f := 65) (args := #[.pointer (some ⟨K.b, 0, none⟩)]) (by simp) (by simp [go_sem]) ?_
   refine (CL.out _ _ .returning _ HMD.out.st).mono ?_
   rintro e u' w9 ⟨rfl, rfl, m9⟩
   obtain ⟨y0, y1, y2, y3, yk0, yk1, yk2, yk3⟩ := (HPD.out.onl m9.2 HNZ.out).cells
   exact ⟨An.val n4, by simp [results, Tryz.results59, go_sem, An.val, y0, y1, y2, y3], _, _, _, _, rfl, by rw [HSP.out]; unfold exprP; exact HR2.out.bnd (by rw [if_pos HQ.out]; exact HR4.out.pre HTL.out.1), HMD.out.trans m9, (HTD.out.onl m9.2 (by have := HK.out; omega)).low (Nat.le_succ _)⟩
  ·
   have HQ := kH hq
   rw [if_neg hq, decide_eq_false hq] at CT
   clear hq
   refine (CT.out _ H2.out.st).mono ?_
   rintro e w3 ⟨rfl, m3⟩
   have HN := kH (HN.out.onl m3.2 HNZ.out)
   have HT1 := kH (HT1.out.onl m3.2 (by have := HK.out; omega))
   have HV := kH (HV.out.onl m3.2 HBHV.out)
   have H3 := kH (H2.out.trans m3)
   clear m3
   go_wp2_with fail
   obtain ⟨S, hS⟩ : ∃ S, fx l1 = S := ⟨_, rfl⟩
   rw [hS] at CF
   refine (CF.out _ H3.out.st).mono ?_
   rintro e w4 ⟨rfl, m4⟩
   have HN := kH (HN.out.onl m4.2 HNZ.out)
   have HT1 := kH (HT1.out.onl m4.2 (by have := HK.out; omega))
   have HV := kH (HV.out.onl m4.2 HBHV.out)
   have H4 := kH (H3.out.trans m4)
   clear m4
   obtain ⟨v0, v1, v2, v3, vk0, vk1, vk2, vk3⟩ := HV.out.cells
   by_cases hA : S = [61] ∨ S = [43, 61] ∨ S = [45, 61] ∨ S = [42, 61] ∨ S = [47, 61] ∨ S = [37, 61]
   ·
    rcases hA with rfl | rfl | rfl | rfl | rfl | rfl
    all_goals
     have HS := kH hS
     clear hS
     have CI := kH (CI.out t n HT1.out.opx)
     unfold An.val at CI
     go_wp2_with fail
     cases hp : isPl t with
     | true =>
      have HP := kH hp
      rw [hp] at CI
      clear hp
      have HLQ : Hid ((nlsP (nx l1)).length < m ∧ nlsP (nx l1) <:+ nx l1) := kH (by
       have h1 := HTL.out.2.2.2 (fx_kind HS.out (by simp))
       have h2 := HR2.out.suf.length_le
       have h3 := HTL.out.2.2.1.nls.1
       have h4 := h3.length_le
       have := HLM.out
       exact ⟨by omega, h3⟩)
      have hf := Tryz.fldT (tk l1).k (tk l1).a ⟨(tk l1).t.toArray⟩
      refine (CI.out _).mono ?_
      rintro e w5 ⟨rfl, hb5⟩
      have HN := kH (HN.out.below hb5)
      have HT1 := kH (HT1.out.below hb5)
      have HV := kH (HV.out.below hb5)
      have H5 := kH (H4.out.below hb5)
      clear hb5
      go_wp2_with fail
      refine (CN.out _ H5.out.st).mono ?_
      rintro e w6 ⟨rfl, m6⟩
      have HN := kH (HN.out.onl m6.2 HNZ.out)
      have HT1 := kH (HT1.out.onl m6.2 (by have := HK.out; omega))
      have HV := kH (HV.out.onl m6.2 HBHV.out)
      have H6 := kH (H5.out.trans m6)
      clear m6
      unfold tokV
      go_wp2_with fail
      refine (CNL.out _ _ _ H6.out.st).mono ?_
      rintro e w7 ⟨rfl, m7⟩
      have HN := kH (HN.out.onl m7.2 HNZ.out)
      have HT1 := kH (HT1.out.onl m7.2 (by have := HK.out; omega))
      have HV := kH (HV.out.onl m7.2 HBHV.out)
      have H7 := kH (H6.out.trans m7)
      clear m7
      go_wp2_with fail
      have HN := kH (HN.out.drew)
      have HT1 := kH (HT1.out.drew)
      have HV := kH (HV.out.drew)
      have H7 := kH H7.out.drew
      refine wp_mono (Q := NoP _) ?_ (fun e a w h => h.2)
      refine wp_region_L (st := [6]) (S := fun Z => BlkA Z w2.heap.size n) (by kernel_rfl) (HV.out) (fun hHeld => ?_)
      generalize w7.drew = wd7 at *
      refine tkL 0 (v := ?_) rfl ?_ ?_ (hQ := fun c _ _ h => absurd rfl (h.1 c))
      rotate_left
      ·
       (intro w hSw; obtain ⟨d0, d1, d2, d3, dk0, dk1, dk2, dk3⟩ := BlkA.cells hSw; go_simp; try with_reducible rfl)
      try simp only [nrm]
      refine tkL 1 (v := ?_) rfl ?_ ?_ (hQ := fun c _ _ h => absurd rfl (h.1 c))
      rotate_left
      ·
       (intro w hSw; obtain ⟨d0, d1, d2, d3, dk0, dk1, dk2, dk3⟩ := BlkA.cells hSw; go_simp; try with_reducible rfl)
      try simp only [nrm]
      refine tkL 2 (v := ?_) rfl ?_ ?_ (hQ := fun c _ _ h => absurd rfl (h.1 c))
      rotate_left
      ·
       (intro w hSw; obtain ⟨d0, d1, d2, d3, dk0, dk1, dk2, dk3⟩ := BlkA.cells hSw; go_simp; try with_reducible rfl)
      try simp only [nrm]
      refine rdL 3 rfl (fun K2 hK => ?_)
      go_simp
      have HLT := kH HN.out.lt
      refine (CX.out _ _ _ HLQ.out.1 H7.out.st).mono ?_
      rintro e w8 ⟨u, m, l5, er5, rfl, r8, m8, tu⟩
      have HN := kH (HN.out.onl m8.2 HNZ.out)
      have HT1 := kH (HT1.out.onl m8.2 (by have := HK.out; omega))
      have HV := kH (HV.out.onl m8.2 HBHV.out)
      have HR8 := kH r8
      have HU := kH (tu.low (B1 := w.heap.size + 1) (by have := HLT.out; omega))
      have H8 := kH (H7.out.trans m8)
      clear m8 r8 tu
      unfold An.val
      refine hK.out _ _ (HV.out) (fun hHeld => ?_)
      clear hK K2
      try simp only [nrm]
      have HTW := kH (TreeP.twoG (w := w8) HT1.out HU.out (by have := HN.out.lt; omega) [97, 115, 115, 105, 103, 110] (tk l1).t 0)
      refine rdL 4 rfl (fun K2 hK => ?_)
      go_simp
      have HN := kH (HN.out.alloc (nB2 n m))
      have HT1 := kH (HT1.out.below ((Below.refl _ _).alloc (Nat.le_refl _) (nB2 n m)))
      have HV := kH (HV.out.alloc (nB2 n m))
      have H8 := kH (H8.out.alloc (nB2 n m))
      refine hK.out _ _ (HV.out) (fun hHeld => ?_)
      clear hK K2
      try simp only [nrm]
      refine tkL 5 (v := ?_) rfl ?_ ?_ (hQ := fun c _ _ h => absurd rfl (h.1 c))
      rotate_left
      ·
       (intro w hSw; obtain ⟨d0, d1, d2, d3, dk0, dk1, dk2, dk3⟩ := BlkA.cells hSw; go_simp; try with_reducible rfl)
      try simp only [nrm]
      refine wpAnyL_ready (rs := [6]) (by kernel_rfl) (by simp) ?_
      refine AllReadyL.store (o := _) rfl (by decide) (by decide) (fun K2 hK => ?_) AllReadyL.nil
      obtain ⟨z0, z1, z2, z3, zk0, zk1, zk2, zk3⟩ := HN.out.cells
      go_simp
      refine hK.out _ _ ?_
      clear hK K2
      try simp only [nrm]
      refine wpAnyL_done (by kernel_rfl) ?_ _
      refine ⟨fun c h => (by cases h), ?_⟩
      go_wp2_with fail
      have HPD := kH (BlkA.putA HN.out ⟨bs [97, 115, 115, 105, 103, 110], bs (tk l1).t, 0, some ⟨w8.heap.size, 0, none⟩, 2, 2⟩)
      have HMD := kH (Mv.putA H8.out (Nat.le_refl _) HK.out ⟨bs [97, 115, 115, 105, 103, 110], bs (tk l1).t, 0, some ⟨w8.heap.size, 0, none⟩, 2, 2⟩)
      have HTD := kH (TreeP.putA (HTW.out) (g := w.heap.size) (fun k hk _ => by omega) ⟨bs [97, 115, 115, 105, 103, 110], bs (tk l1).t, 0, some ⟨w8.heap.size, 0, none⟩, 2, 2⟩)
      refine leaves_cons (f := 65) (args := #[.pointer (some ⟨K.b, 0, none⟩)]) (by simp) (by simp [go_sem]) ?_
      refine (CL.out _ _ .returning _ HMD.out.st).mono ?_
      rintro e u' w9 ⟨rfl, rfl, m9⟩
      obtain ⟨y0, y1, y2, y3, yk0, yk1, yk2, yk3⟩ := (HPD.out.onl m9.2 HNZ.out).cells
      exact ⟨An.val ⟨bs [97, 115, 115, 105, 103, 110], bs (tk l1).t, 0, some ⟨w8.heap.size, 0, none⟩, 2, 2⟩, by simp [results, Tryz.results59, go_sem, An.val, y0, y1, y2, y3], _, _, _, _, rfl, by rw [HSP.out]; unfold exprP; exact HR2.out.bnd (by rw [if_neg HQ.out, if_pos (by rw [HP.out, HS.out]; rfl)]; exact ((HR8.out.bnd (Res.ret HR8.out.ne)).pre HLQ.out.2).pre HTL.out.1), HMD.out.trans m9, (HTD.out.onl m9.2 (by have := HK.out; omega)).low (Nat.le_succ _)⟩
     | false =>
      have HP := kH hp
      rw [hp] at CI
      clear hp
      refine (CI.out _).mono ?_
      rintro e w5 ⟨rfl, hb5⟩
      have HN := kH (HN.out.below hb5)
      have HT1 := kH (HT1.out.below hb5)
      have HV := kH (HV.out.below hb5)
      have H5 := kH (H4.out.below hb5)
      clear hb5
      obtain ⟨u0, u1, u2, u3, uk0, uk1, uk2, uk3⟩ := HV.out.cells
      obtain ⟨z0, z1, z2, z3, zk0, zk1, zk2, zk3⟩ := HN.out.cells
      go_wp2_with fail
      have HPD := kH (BlkA.putA HN.out n)
      have HMD := kH (Mv.putA H5.out (Nat.le_refl _) HK.out n)
      have HTD := kH (TreeP.putA (HT1.out) (g := w.heap.size) (fun k hk _ => by omega) n)
      refine leaves_cons (f := 65) (args := #[.pointer (some ⟨K.b, 0, none⟩)]) (by simp) (by simp [go_sem]) ?_
      refine (CL.out _ _ .returning _ HMD.out.st).mono ?_
      rintro e u' w9 ⟨rfl, rfl, m9⟩
      obtain ⟨y0, y1, y2, y3, yk0, yk1, yk2, yk3⟩ := (HPD.out.onl m9.2 HNZ.out).cells
      exact ⟨An.val n, by simp [results, Tryz.results59, go_sem, An.val, y0, y1, y2, y3], _, _, _, _, rfl, by rw [HSP.out]; unfold exprP; exact HR2.out.bnd (by rw [if_neg HQ.out, if_neg (by rw [HP.out]; simp)]; exact Res.ret HR2.out.ne), HMD.out.trans m9, (HTD.out.onl m9.2 (by have := HK.out; omega)).low (Nat.le_succ _)⟩
   ·
    have h : ¬ S = [61] ∧ ¬ S = [43, 61] ∧ ¬ S = [45, 61] ∧ ¬ S = [42, 61] ∧ ¬ S = [47, 61] ∧ ¬ S = [37, 61] := by simpa only [not_or] using hA
    obtain ⟨h0, h1, h2, h3, h4, h5⟩ := h
    have HX : Hid (¬ (asgB (fx l1) && isPl t) = true) := kH (by rw [hS]; simp [asgB, h0, h1, h2, h3, h4, h5])
    have g0 : (S == [61]) = false := by rw [beq_eq_false_iff_ne]; exact h0
    have g1 : (S == [43, 61]) = false := by rw [beq_eq_false_iff_ne]; exact h1
    have g2 : (S == [45, 61]) = false := by rw [beq_eq_false_iff_ne]; exact h2
    have g3 : (S == [42, 61]) = false := by rw [beq_eq_false_iff_ne]; exact h3
    have g4 : (S == [47, 61]) = false := by rw [beq_eq_false_iff_ne]; exact h4
    have g5 : (S == [37, 61]) = false := by rw [beq_eq_false_iff_ne]; exact h5
    clear hS hA h0 h1 h2 h3 h4 h5
    obtain ⟨z0, z1, z2, z3, zk0, zk1, zk2, zk3⟩ := HN.out.cells
    go_wp2_with fail
    have HPD := kH (BlkA.putA HN.out n)
    have HMD := kH (Mv.putA H4.out (Nat.le_refl _) HK.out n)
    have HTD := kH (TreeP.putA (HT1.out) (g := w.heap.size) (fun k hk _ => by omega) n)
    refine leaves_cons (f := 65) (args := #[.pointer (some ⟨K.b, 0, none⟩)]) (by simp) (by simp [go_sem]) ?_
    refine (CL.out _ _ .returning _ HMD.out.st).mono ?_
    rintro e u' w9 ⟨rfl, rfl, m9⟩
    obtain ⟨y0, y1, y2, y3, yk0, yk1, yk2, yk3⟩ := (HPD.out.onl m9.2 HNZ.out).cells
    exact ⟨An.val n, by simp [results, Tryz.results59, go_sem, An.val, y0, y1, y2, y3], _, _, _, _, rfl, by rw [HSP.out]; unfold exprP; exact HR2.out.bnd (by rw [if_neg HQ.out, if_neg HX.out]; exact Res.ret HR2.out.ne), HMD.out.trans m9, (HTD.out.onl m9.2 (by have := HK.out; omega)).low (Nat.le_succ _)⟩
set_option maxHeartbeats 8000000 in
set_option maxRecDepth 100000 in
theorem pexpr_dead {reOk : List UInt8 → Bool} {K : Ps} (HRe : ReOk reOk) (pr : Bool) (l : List Tok) (e0 : Nat × Nat) (w : World) (hl : l.length = 1) (h : Pst w K l 51 pr (some e0)) :
  Calls Tryz.prog 59 #[.pointer (some ⟨K.b, 0, none⟩)] w fun e w' => ∃ t n, e = .returned (An.val n) ∧ Mv K w l 51 pr (some e0) w' ∧ TreeP w' (fun k => w.heap.size ≤ k) t n := by
 have hlst : lst l = l := by unfold lst; rw [hl]; rfl
 have IE : OkE reOk K 1 59 fun R pr => R.E pr := fun _ _ l _ _ _ hl hW => absurd (List.length_pos_iff.2 (Pst.ne hW)) (by omega)
 have IP : OkN reOk K 1 124 fun R _ => primP reOk R := fun _ _ l _ _ _ hl hW => absurd (List.length_pos_iff.2 (Pst.ne hW)) (by omega)
 have IU : OkN reOk K 1 119 fun R _ => unaryP reOk R := fun _ _ l _ _ _ hl hW => absurd (List.length_pos_iff.2 (Pst.ne hW)) (by omega)
 have HTL := kH h.tll
 have CE := kH (penter_deep2 K l pr (some e0))
 rw [hlst, Option.getD_some] at CE
 have hd1 : DpOk 52 l := .inr ⟨by decide, hl⟩
 have CO := kH fun W hW => por_any HRe IE IP IU 52 pr l (some e0) W hd1 (Nat.le_of_eq hl) hW
 have CT := kH fun er1 => ptake_any K l 52 pr er1 [63]
 have CF := kH fun er1 => pfix_any K l 52 pr er1
 have hf0 : fx l = [] := by have := (fx_lst h.tll).1; rwa [hlst] at this
 rw [hf0] at CT CF
 simp only [if_neg (show ¬ ([] : List UInt8) = [63] from by simp), decide_eq_false (show ¬ ([] : List UInt8) = [63] from by simp)] at CT
 have CL := kH fun l1 er1 u W hW => pleave_d K l1 51 pr er1 (by decide) u W hW
 have HL1 := kH hl
 have HK : Hid (K.b < w.heap.size ∧ K.g < w.heap.size) := kH ⟨h.lt, h.glt⟩
 have HNZ : Hid (w.heap.size ≠ K.b) := kH (by have := HK.out; omega)
 have HN := kH (BlkA.new0 w)
 have H0 := kH ((Mv.refl h).alloc zN)
 have HSZ : Hid (w.heap.size + 1 = (w.alloc zN).heap.size) := kH (by simp)
 clear HRe IE IP IU h hd1 hf0 hlst hl
 go_enter_defers Tryz.func59, Tryz.ntmps59
 go_wp2_with fail
 generalize w.alloc zN = w0 at *
 refine (CE.out _ H0.out.st).mono ?_
 rintro e w1 ⟨rfl, m1⟩
 have HN := kH (HN.out.onl m1.2 HNZ.out)
 have H1 := kH (H0.out.trans m1)
 clear m1
 go_wp2_with fail
 have HLT := kH HN.out.lt
 refine (CO.out _ H1.out.st).mono ?_
 rintro e w2 ⟨t, n, l1, er1, rfl, r2, m2, tr1⟩
 have HN := kH (HN.out.onl m2.2 HNZ.out)
 have HR2 := kH r2
 have HT1 := kH (tr1.low (B1 := w.heap.size + 1) (by have := HLT.out; omega))
 have H2 := kH (H1.out.trans m2)
 clear m2 r2 tr1
 have HEQ : Hid (l1 = l ∧ er1 = some e0) := kH (by
  refine ⟨HR2.out.suf.eq_of_length (by have h2 := HR2.out.suf.length_le; have h4 := List.length_pos_iff.2 HR2.out.ne; have := HL1.out; omega), ?_⟩
  rcases HR2.out.alt with ⟨_, h1⟩ | ⟨_, _, h1, _⟩
  ·
   exact h1
  ·
   exact h1)
 obtain ⟨rfl, rfl⟩ := HEQ.out
 unfold An.val
 have HBHV : Hid (w2.heap.size ≠ K.b) := kH (by have := H2.out.st.lt; omega)
 have HN := kH (HN.out.alloc (nB n))
 have HT1 := kH (HT1.out.below ((Below.refl _ _).alloc (Nat.le_refl _) (nB n)))
 have HV := kH (BlkA.new w2 n)
 have H2 := kH (H2.out.alloc (nB n))
 go_wp2_with fail
 refine ((CT.out _) _ H2.out.st).mono ?_
 rintro e w3 ⟨rfl, m3⟩
 have HN := kH (HN.out.onl m3.2 HNZ.out)
 have HT1 := kH (HT1.out.onl m3.2 (by have := HK.out; omega))
 have HV := kH (HV.out.onl m3.2 HBHV.out)
 have H3 := kH (H2.out.trans m3)
 clear m3
 go_wp2_with fail
 refine ((CF.out _) _ H3.out.st).mono ?_
 rintro e w4 ⟨rfl, m4⟩
 have HN := kH (HN.out.onl m4.2 HNZ.out)
 have HT1 := kH (HT1.out.onl m4.2 (by have := HK.out; omega))
 have HV := kH (HV.out.onl m4.2 HBHV.out)
 have H4 := kH (H3.out.trans m4)
 clear m4
 obtain ⟨v0, v1, v2, v3, vk0, vk1, vk2, vk3⟩ := HV.out.cells
 obtain ⟨z0, z1, z2, z3, zk0, zk1, zk2, zk3⟩ := HN.out.cells
 go_wp2_with fail
 have HPD := kH (BlkA.putA HN.out n)
 have HMD := kH (Mv.putA H4.out (Nat.le_refl _) HK.out n)
 have HTD := kH (TreeP.putA HT1.out (g := w.heap.size) (fun k hk _ => by omega) n)
 refine leaves_cons (f := 65) (args := #[.pointer (some ⟨K.b, 0, none⟩)]) (by simp) (by simp [go_sem]) ?_
 refine (CL.out _ _ .returning _ HMD.out.st).mono ?_
 rintro e u' w9 ⟨rfl, rfl, m9⟩
 obtain ⟨y0, y1, y2, y3, yk0, yk1, yk2, yk3⟩ := (HPD.out.onl m9.2 HNZ.out).cells
 exact ⟨An.val n, by simp [results, Tryz.results59, go_sem, An.val, y0, y1, y2, y3], _, _, rfl, HMD.out.trans m9, (HTD.out.onl m9.2 (by have := HK.out; omega)).low (Nat.le_succ _)⟩
end Go.Proofs.YtmbfdkiejneheaaGreatDoor
