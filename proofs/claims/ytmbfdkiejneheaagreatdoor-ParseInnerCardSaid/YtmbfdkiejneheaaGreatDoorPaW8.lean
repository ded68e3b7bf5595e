/-
 CONTRACT of layer 13's primary.
-/
import Derived.Test.YtmbfdkiejneheaaGreatDoorPaV4
import Derived.Defers
namespace Go.Proofs.YtmbfdkiejneheaaGreatDoor
open Go.RowKit

theorem Res.dead {α β : Type} {X : TR α} {Y : TR β} {l : List Tok} {er er2 : ErO} {a : α} {b : β} {l2 : List Tok} {e : Nat × Nat} (h : Res Y (lst l) (some (er.getD e)) b l2 er2) (hl : l ≠ []) (hX : X = .error e) : Res X l er a l2 er2 := by
 refine ⟨h.suf.trans (lst_suf l), h.ne, .inr ⟨e, hX, ?_, ?_⟩⟩
 ·
  rcases h.alt with ⟨_, h1⟩ | ⟨_, _, h1, _⟩
  ·
   exact h1
  ·
   exact h1
 ·
  have h1 := h.suf.length_le
  have h2 := lst_len hl
  have h3 := List.length_pos_iff.2 h.ne
  omega
theorem fx_lst {l : List Tok} (hl : Tl l) : fx (lst l) = [] ∧ (tk (lst l)).k = 0 := by
 obtain ⟨l0, e, rfl, h1, _⟩ := hl
 have : lst (l0 ++ [e]) = [e] := by unfold lst; simp
 rw [this]
 exact ⟨by simp [fx, tk, h1], h1⟩
theorem Tryz.fldNo (o s : ByteArray) (a : Int) (p : Option Addr) (n c : Nat) : ∀ w : World, (Instr.field 25 (.agg #[.string o, .string s, .int .i64 a, .slice p n c]) 0).run Tryz.prog w = .ok (.string o) w := fun _ => by kernel_rfl
set_option maxHeartbeats 4000000 in
set_option maxRecDepth 100000 in
theorem pleave_d (K : Ps) (l : List Tok) (dp : Nat) (pr : Bool) (er : ErO) (hd : dp ≤ 60) (u : FrameMode) (w : World) (h : Pst w K l (dp + 1) pr er) :
  CallsD Tryz.prog 65 #[.pointer (some ⟨K.b, 0, none⟩)] u w fun e u' w' => u' = u ∧ (e = .returned (.tuple #[]) ∧ Mv K w l dp pr er w') := by
 have H1 := kH ((Mv.refl h).deep dp)
 obtain ⟨c0, c1, c2, c3, c4, c5, f1, f2, f3, f4, f5⟩ := h.rd.cells
 clear h
 have e2 : (dp : Int) ≤ 60 := by omega
 have e3 : (0 : Int) ≤ (dp : Int) := by omega
 rw [show ((dp + 1 : Nat) : Int) = (dp : Int) + 1 from rfl] at c2
 have e4 : (dp : Int) + 1 - 1 = (dp : Int) := by omega
 go_enter_d Tryz.func65, Tryz.ntmps65
 go_wp2_with fail
 go_end0
 exact ⟨rfl, H1.out⟩
set_option maxHeartbeats 8000000 in
set_option maxRecDepth 100000 in
theorem ppre_any {reOk : List UInt8 → Bool} {K : Ps} {m : Nat} (IP : OkN reOk K m 124 fun R _ => primP reOk R) (dp : Nat) (pr : Bool) (l : List Tok) (er : ErO) (w : World) (hd : DpOk dp l) (hl : l.length ≤ m) (hs : stepB l = true) (h : Pst w K l dp pr er) :
  Calls Tryz.prog 123 #[.pointer (some ⟨K.b, 0, none⟩)] w (NdPost K w w.heap.size l (preP reOk (rcP reOk (50 - dp)) l) dp pr er) := by
 have CN := kH (pnext_any K l dp pr er)
 have hk : (tk l).k ≠ 0 := by
  unfold stepB at hs
  rw [Bool.or_eq_true, decide_eq_true_iff, decide_eq_true_iff] at hs
  rcases hs with h1 | h1 <;> exact fx_kind h1 (by simp)
 have hlt := h.tll.nx.2.2.2 hk
 have CP := kH fun W hW => IP dp pr (nx l) er W (hd.suf h.tll.nx.1 h.tll.nx.2.1) (by omega) hW
 have CI := kH fun t n hn W => pispl_any t n hn W
 have CX := kH fun l1 er1 => prefuse_any K l1 dp pr er1
 have CM := kH fun o p n c W => pnode_any o p n c W
 have HTL := kH h.tll.nx
 have hf := Tryz.fldT (tk l).k (tk l).a ⟨(tk l).t.toArray⟩
 have HK : Hid (K.b < w.heap.size ∧ K.g < w.heap.size) := kH ⟨h.lt, h.glt⟩
 have HNZ : Hid (w.heap.size ≠ K.b) := kH (by have := HK.out; omega)
 have HN := kH (BlkA.new0 w)
 have H0 := kH ((Mv.refl h).alloc zN)
 have HSZ : Hid (w.heap.size + 1 = (w.alloc zN).heap.size) := kH (by simp)
 clear IP hd hl hs hlt hk h
 go_enter Tryz.func123, Tryz.ntmps123
 go_wp2_with fail
 generalize w.alloc zN = w0 at *
 by_cases ht : (tk l).t = [45, 45]
 ·
  have ht2 : ((tk l).t == [45, 45]) = true := by rw [ht]; rfl
  have HT := kH ht
  clear ht
  refine (CN.out _ H0.out.st).mono ?_
  rintro e w1 ⟨rfl, m1⟩
  have HN := kH (HN.out.onl m1.2 HNZ.out)
  have H1 := kH (H0.out.trans m1)
  clear m1
  unfold tokV
  go_wp2_with fail
  have HLT := kH HN.out.lt
  refine (CP.out _ H1.out.st).mono ?_
  rintro e w2 ⟨t2, n2, l2, er2, rfl, r2, m2, tr2⟩
  have HN := kH (HN.out.onl m2.2 HNZ.out)
  have HR2 := kH r2
  have HT2 := kH (tr2.low (B1 := w.heap.size + 1) (by have := HLT.out; omega))
  have H2 := kH (H1.out.trans m2)
  clear m2 r2 tr2
  have CI := kH (CI.out t2 n2 HT2.out.opx)
  unfold An.val at CI ⊢
  have HBHV : Hid (w2.heap.size ≠ K.b) := kH (by have := H2.out.st.lt; omega)
  have HN := kH (HN.out.alloc (nB n2))
  have HT2 := kH (HT2.out.below ((Below.refl _ _).alloc (Nat.le_refl _) (nB n2)))
  have HV := kH (BlkA.new w2 n2)
  have H2 := kH (H2.out.alloc (nB n2))
  go_wp2_with fail
  cases hp : isPl t2 with
  | true =>
   have HP := kH hp
   rw [hp] at CI
   clear hp
   refine (CI.out _).mono ?_
   rintro e w3 ⟨rfl, hb3⟩
   have HN := kH (HN.out.below hb3)
   have HT2 := kH (HT2.out.below hb3)
   have HV := kH (HV.out.below hb3)
   have H3 := kH (H2.out.below hb3)
   clear hb3
   obtain ⟨u0, u1, u2, u3, uk0, uk1, uk2, uk3⟩ := HV.out.cells
   go_wp2_with fail
   have HRW := kH (RwA.new1 (w := w3) (B0 := w.heap.size + 1) HT2.out (by have := HN.out.lt; omega))
   have HN := kH (HN.out.alloc (nB n2))
   have HT2 := kH (HT2.out.below ((Below.refl _ _).alloc (Nat.le_refl _) (nB n2)))
   have HV := kH (HV.out.alloc (nB n2))
   have H3 := kH (H3.out.alloc (nB n2))
   go_wp2_with fail
   refine (CM.out _ _ _ _ _).mono ?_
   rintro e w4 ⟨rfl, hb4⟩
   have HRW := kH (HRW.out.below hb4)
   have HN := kH (HN.out.below hb4)
   have HT2 := kH (HT2.out.below hb4)
   have HV := kH (HV.out.below hb4)
   have H4 := kH (H3.out.below hb4)
   clear hb4
   unfold An.val
   obtain ⟨z0, z1, z2, z3, zk0, zk1, zk2, zk3⟩ := HN.out.cells
   go_wp2_with fail
   exact bodyPost_ret (v := An.val ⟨bs [112, 114, 101, 100, 101, 99], ⟨#[]⟩, 0, some ⟨w3.heap.size, 0, none⟩, 1, 1⟩) (by simp [results, Tryz.results123, go_sem, An.val, z0, z1, z2, z3] <;> rfl) rfl (NdPost.put (n := ⟨bs [112, 114, 101, 100, 101, 99], ⟨#[]⟩, 0, some ⟨w3.heap.size, 0, none⟩, 1, 1⟩) (by unfold preP; exact (HR2.out.bnd (by rw [if_pos HP.out, if_pos HT.out]; exact Res.ret HR2.out.ne)).pre HTL.out.1) H4.out (HRW.out.nd [112, 114, 101, 100, 101, 99]) HK.out)
  | false =>
   have HP := kH hp
   rw [hp] at CI
   clear hp
   refine (CI.out _).mono ?_
   rintro e w3 ⟨rfl, hb3⟩
   have HN := kH (HN.out.below hb3)
   have HT2 := kH (HT2.out.below hb3)
   have HV := kH (HV.out.below hb3)
   have H3 := kH (H2.out.below hb3)
   clear hb3
   go_wp2_with fail
   refine (CX.out _ _ _ H3.out.st).mono ?_
   rintro e w4 ⟨rfl, m4⟩
   have HN := kH (HN.out.onl m4.2 HNZ.out)
   have HT2 := kH (HT2.out.onl m4.2 (by have := HK.out; omega))
   have HV := kH (HV.out.onl m4.2 HBHV.out)
   have H4 := kH (H3.out.trans m4)
   clear m4
   obtain ⟨u0, u1, u2, u3, uk0, uk1, uk2, uk3⟩ := HV.out.cells
   go_wp2_with fail
   have HRW := kH (RwA.new1 (w := w4) (B0 := w.heap.size + 1) HT2.out (by have := HN.out.lt; omega))
   have HN := kH (HN.out.alloc (nB n2))
   have HT2 := kH (HT2.out.below ((Below.refl _ _).alloc (Nat.le_refl _) (nB n2)))
   have HV := kH (HV.out.alloc (nB n2))
   have H4 := kH (H4.out.alloc (nB n2))
   go_wp2_with fail
   refine (CM.out _ _ _ _ _).mono ?_
   rintro e w5 ⟨rfl, hb5⟩
   have HRW := kH (HRW.out.below hb5)
   have HN := kH (HN.out.below hb5)
   have HT2 := kH (HT2.out.below hb5)
   have HV := kH (HV.out.below hb5)
   have H5 := kH (H4.out.below hb5)
   clear hb5
   unfold An.val
   obtain ⟨z0, z1, z2, z3, zk0, zk1, zk2, zk3⟩ := HN.out.cells
   go_wp2_with fail
   exact bodyPost_ret (v := An.val ⟨bs [112, 114, 101, 100, 101, 99], ⟨#[]⟩, 0, some ⟨w4.heap.size, 0, none⟩, 1, 1⟩) (by simp [results, Tryz.results123, go_sem, An.val, z0, z1, z2, z3] <;> rfl) rfl (NdPost.put (n := ⟨bs [112, 114, 101, 100, 101, 99], ⟨#[]⟩, 0, some ⟨w4.heap.size, 0, none⟩, 1, 1⟩) (by unfold preP; exact (HR2.out.bnd (by rw [if_neg (by rw [HP.out]; decide)]; exact Res.fail _ HR2.out.ne rfl)).pre HTL.out.1) H5.out (HRW.out.nd [112, 114, 101, 100, 101, 99]) HK.out)
 ·
  have ht2 : ((tk l).t == [45, 45]) = false := by rw [beq_eq_false_iff_ne]; exact ht
  have HT := kH ht
  clear ht
  refine (CN.out _ H0.out.st).mono ?_
  rintro e w1 ⟨rfl, m1⟩
  have HN := kH (HN.out.onl m1.2 HNZ.out)
  have H1 := kH (H0.out.trans m1)
  clear m1
  unfold tokV
  go_wp2_with fail
  have HLT := kH HN.out.lt
  refine (CP.out _ H1.out.st).mono ?_
  rintro e w2 ⟨t2, n2, l2, er2, rfl, r2, m2, tr2⟩
  have HN := kH (HN.out.onl m2.2 HNZ.out)
  have HR2 := kH r2
  have HT2 := kH (tr2.low (B1 := w.heap.size + 1) (by have := HLT.out; omega))
  have H2 := kH (H1.out.trans m2)
  clear m2 r2 tr2
  have CI := kH (CI.out t2 n2 HT2.out.opx)
  unfold An.val at CI ⊢
  have HBHV : Hid (w2.heap.size ≠ K.b) := kH (by have := H2.out.st.lt; omega)
  have HN := kH (HN.out.alloc (nB n2))
  have HT2 := kH (HT2.out.below ((Below.refl _ _).alloc (Nat.le_refl _) (nB n2)))
  have HV := kH (BlkA.new w2 n2)
  have H2 := kH (H2.out.alloc (nB n2))
  go_wp2_with fail
  cases hp : isPl t2 with
  | true =>
   have HP := kH hp
   rw [hp] at CI
   clear hp
   refine (CI.out _).mono ?_
   rintro e w3 ⟨rfl, hb3⟩
   have HN := kH (HN.out.below hb3)
   have HT2 := kH (HT2.out.below hb3)
   have HV := kH (HV.out.below hb3)
   have H3 := kH (H2.out.below hb3)
   clear hb3
   obtain ⟨u0, u1, u2, u3, uk0, uk1, uk2, uk3⟩ := HV.out.cells
   go_wp2_with fail
   have HRW := kH (RwA.new1 (w := w3) (B0 := w.heap.size + 1) HT2.out (by have := HN.out.lt; omega))
   have HN := kH (HN.out.alloc (nB n2))
   have HT2 := kH (HT2.out.below ((Below.refl _ _).alloc (Nat.le_refl _) (nB n2)))
   have HV := kH (HV.out.alloc (nB n2))
   have H3 := kH (H3.out.alloc (nB n2))
   go_wp2_with fail
   refine (CM.out _ _ _ _ _).mono ?_
   rintro e w4 ⟨rfl, hb4⟩
   have HRW := kH (HRW.out.below hb4)
   have HN := kH (HN.out.below hb4)
   have HT2 := kH (HT2.out.below hb4)
   have HV := kH (HV.out.below hb4)
   have H4 := kH (H3.out.below hb4)
   clear hb4
   unfold An.val
   obtain ⟨z0, z1, z2, z3, zk0, zk1, zk2, zk3⟩ := HN.out.cells
   go_wp2_with fail
   exact bodyPost_ret (v := An.val ⟨bs [112, 114, 101, 105, 110, 99], ⟨#[]⟩, 0, some ⟨w3.heap.size, 0, none⟩, 1, 1⟩) (by simp [results, Tryz.results123, go_sem, An.val, z0, z1, z2, z3] <;> rfl) rfl (NdPost.put (n := ⟨bs [112, 114, 101, 105, 110, 99], ⟨#[]⟩, 0, some ⟨w3.heap.size, 0, none⟩, 1, 1⟩) (by unfold preP; exact (HR2.out.bnd (by rw [if_pos HP.out, if_neg HT.out]; exact Res.ret HR2.out.ne)).pre HTL.out.1) H4.out (HRW.out.nd [112, 114, 101, 105, 110, 99]) HK.out)
  | false =>
   have HP := kH hp
   rw [hp] at CI
   clear hp
   refine (CI.out _).mono ?_
   rintro e w3 ⟨rfl, hb3⟩
   have HN := kH (HN.out.below hb3)
   have HT2 := kH (HT2.out.below hb3)
   have HV := kH (HV.out.below hb3)
   have H3 := kH (H2.out.below hb3)
   clear hb3
   go_wp2_with fail
   refine (CX.out _ _ _ H3.out.st).mono ?_
   rintro e w4 ⟨rfl, m4⟩
   have HN := kH (HN.out.onl m4.2 HNZ.out)
   have HT2 := kH (HT2.out.onl m4.2 (by have := HK.out; omega))
   have HV := kH (HV.out.onl m4.2 HBHV.out)
   have H4 := kH (H3.out.trans m4)
   clear m4
   obtain ⟨u0, u1, u2, u3, uk0, uk1, uk2, uk3⟩ := HV.out.cells
   go_wp2_with fail
   have HRW := kH (RwA.new1 (w := w4) (B0 := w.heap.size + 1) HT2.out (by have := HN.out.lt; omega))
   have HN := kH (HN.out.alloc (nB n2))
   have HT2 := kH (HT2.out.below ((Below.refl _ _).alloc (Nat.le_refl _) (nB n2)))
   have HV := kH (HV.out.alloc (nB n2))
   have H4 := kH (H4.out.alloc (nB n2))
   go_wp2_with fail
   refine (CM.out _ _ _ _ _).mono ?_
   rintro e w5 ⟨rfl, hb5⟩
   have HRW := kH (HRW.out.below hb5)
   have HN := kH (HN.out.below hb5)
   have HT2 := kH (HT2.out.below hb5)
   have HV := kH (HV.out.below hb5)
   have H5 := kH (H4.out.below hb5)
   clear hb5
   unfold An.val
   obtain ⟨z0, z1, z2, z3, zk0, zk1, zk2, zk3⟩ := HN.out.cells
   go_wp2_with fail
   exact bodyPost_ret (v := An.val ⟨bs [112, 114, 101, 105, 110, 99], ⟨#[]⟩, 0, some ⟨w4.heap.size, 0, none⟩, 1, 1⟩) (by simp [results, Tryz.results123, go_sem, An.val, z0, z1, z2, z3] <;> rfl) rfl (NdPost.put (n := ⟨bs [112, 114, 101, 105, 110, 99], ⟨#[]⟩, 0, some ⟨w4.heap.size, 0, none⟩, 1, 1⟩) (by unfold preP; exact (HR2.out.bnd (by rw [if_neg (by rw [HP.out]; decide)]; exact Res.fail _ HR2.out.ne rfl)).pre HTL.out.1) H5.out (HRW.out.nd [112, 114, 101, 105, 110, 99]) HK.out)
set_option maxHeartbeats 8000000 in
set_option maxRecDepth 100000 in
theorem pfield_any {reOk : List UInt8 → Bool} {K : Ps} {m : Nat} (IP : OkN reOk K m 124 fun R _ => primP reOk R) (dp : Nat) (pr : Bool) (l : List Tok) (er : ErO) (w : World) (hd : dp ≤ 50) (hl : l.length < m) (h : Pst w K l dp pr er) :
  Calls Tryz.prog 127 #[.pointer (some ⟨K.b, 0, none⟩)] w (NdPost K w w.heap.size l ((rcP reOk (50 - dp)).F l) dp pr er) := by
 by_cases h50 : dp = 50
 ·
  subst h50
  have HSP : Hid ((rcP reOk (50 - 50)).F l = .error (deepE l)) := kH rfl
  have HTL := kH h.tll
  have hd1 : DpOk 51 (lst l) := .inr ⟨by decide, lst_len h.ne⟩
  have hll : (lst l).length < m := by have := lst_len h.ne; have := h.pos; omega
  have CE := kH (penter_deep K l pr er)
  have CS := kH (pstepc_any K (lst l) 51 pr (some (er.getD (deepE l))))
  rw [show stepB (lst l) = false from by simp [stepB, (fx_lst h.tll).1]] at CS
  have CP := kH fun W hW => IP 51 pr (lst l) (some (er.getD (deepE l))) W hd1 hll hW
  have CL := kH fun l1 er1 u W hW => pleave_d K l1 50 pr er1 (by decide) u W hW
  have CM := kH fun o p n c W => pnode_any o p n c W
  have HK : Hid (K.b < w.heap.size ∧ K.g < w.heap.size) := kH ⟨h.lt, h.glt⟩
  have HNZ : Hid (w.heap.size ≠ K.b) := kH (by have := HK.out; omega)
  have HN := kH (BlkA.new0 w)
  have H0 := kH ((Mv.refl h).alloc zN)
  have HSZ : Hid (w.heap.size + 1 = (w.alloc zN).heap.size) := kH (by simp)
  clear IP hd hl h hd1 hll
  go_enter_defers Tryz.func127, Tryz.ntmps127
  go_wp2_with fail
  generalize w.alloc zN = w0 at *
  refine (CE.out _ H0.out.st).mono ?_
  rintro e w1 ⟨rfl, m1⟩
  have HN := kH (HN.out.onl m1.2 HNZ.out)
  have H1 := kH (H0.out.trans m1)
  clear m1
  go_wp2_with fail
  refine (CS.out _ H1.out.st).mono ?_
  rintro e w2 ⟨rfl, m2⟩
  have HN := kH (HN.out.onl m2.2 HNZ.out)
  have H2 := kH (H1.out.trans m2)
  clear m2
  go_wp2_with fail
  have HLT := kH HN.out.lt
  refine (CP.out _ H2.out.st).mono ?_
  rintro e w3 ⟨t2, n2, l2, er2, rfl, r3, m3, tr2⟩
  have HN := kH (HN.out.onl m3.2 HNZ.out)
  have HR3 := kH r3
  have HT2 := kH (tr2.low (B1 := w.heap.size + 1) (by have := HLT.out; omega))
  have H3 := kH (H2.out.trans m3)
  clear m3 r3 tr2
  unfold An.val
  have HRW := kH (RwA.new1 (w := w3) (B0 := w.heap.size + 1) HT2.out (by have := HN.out.lt; omega))
  have HN := kH (HN.out.alloc (nB n2))
  have HT2 := kH (HT2.out.below ((Below.refl _ _).alloc (Nat.le_refl _) (nB n2)))
  have H3 := kH (H3.out.alloc (nB n2))
  go_wp2_with fail
  refine (CM.out _ _ _ _ _).mono ?_
  rintro e w4 ⟨rfl, hb4⟩
  have HRW := kH (HRW.out.below hb4)
  have HN := kH (HN.out.below hb4)
  have HT2 := kH (HT2.out.below hb4)
  have H4 := kH (H3.out.below hb4)
  clear hb4
  unfold An.val
  obtain ⟨z0, z1, z2, z3, zk0, zk1, zk2, zk3⟩ := HN.out.cells
  go_wp2_with fail
  have HPD := kH (BlkA.putA HN.out ⟨bs oField, ⟨#[]⟩, 0, some ⟨w3.heap.size, 0, none⟩, 1, 1⟩)
  have HMD := kH (Mv.putA H4.out (Nat.le_refl _) HK.out ⟨bs oField, ⟨#[]⟩, 0, some ⟨w3.heap.size, 0, none⟩, 1, 1⟩)
  have HTD := kH (TreeP.putA (HRW.out.nd oField) (g := w.heap.size) (fun k hk _ => by omega) ⟨bs oField, ⟨#[]⟩, 0, some ⟨w3.heap.size, 0, none⟩, 1, 1⟩)
  refine leaves_cons (f := 65) (args := #[.pointer (some ⟨K.b, 0, none⟩)]) (by simp) (by simp [go_sem]) ?_
  refine (CL.out _ _ .returning _ HMD.out.st).mono ?_
  rintro e u' w9 ⟨rfl, rfl, m9⟩
  obtain ⟨y0, y1, y2, y3, yk0, yk1, yk2, yk3⟩ := (HPD.out.onl m9.2 HNZ.out).cells
  exact ⟨An.val ⟨bs oField, ⟨#[]⟩, 0, some ⟨w3.heap.size, 0, none⟩, 1, 1⟩, by simp [results, Tryz.results127, go_sem, An.val, y0, y1, y2, y3], _, _, _, _, rfl, by rw [HSP.out]; exact Res.dead (HR3.out.bnd (f := fun t l2 => .ok (nd oField [t], l2)) (Res.ret HR3.out.ne)) HTL.out.ne rfl, HMD.out.trans m9, (HTD.out.onl m9.2 (by have := HK.out; omega)).low (Nat.le_succ _)⟩
 ·
  obtain ⟨k, hk⟩ : ∃ k, 50 - dp = k + 1 := ⟨49 - dp, by omega⟩
  have HSP : Hid ((rcP reOk (50 - dp)).F l = fieldP reOk (rcP reOk (50 - (dp + 1))) l) := kH (by rw [hk, show 50 - (dp + 1) = k from by omega]; rfl)
  have hdp : dp < 50 := by omega
  have hd1 : DpOk (dp + 1) l := .inl (by omega)
  have CE := kH (penter_any K l dp pr er hdp)
  have CS := kH (pstepc_any K l (dp + 1) pr er)
  have CP := kH fun W hW => IP (dp + 1) pr l er W hd1 hl hW
  have CQ := kH fun W hs hW => ppre_any IP (dp + 1) pr l er W hd1 (Nat.le_of_lt hl) hs hW
  have CL := kH fun l1 er1 u W hW => pleave_d K l1 dp pr er1 (by omega) u W hW
  have CM := kH fun o p n c W => pnode_any o p n c W
  have HK : Hid (K.b < w.heap.size ∧ K.g < w.heap.size) := kH ⟨h.lt, h.glt⟩
  have HNZ : Hid (w.heap.size ≠ K.b) := kH (by have := HK.out; omega)
  have HN := kH (BlkA.new0 w)
  have H0 := kH ((Mv.refl h).alloc zN)
  have HSZ : Hid (w.heap.size + 1 = (w.alloc zN).heap.size) := kH (by simp)
  clear IP hd hl h h50 hk hdp hd1
  go_enter_defers Tryz.func127, Tryz.ntmps127
  go_wp2_with fail
  generalize w.alloc zN = w0 at *
  refine (CE.out _ H0.out.st).mono ?_
  rintro e w1 ⟨rfl, m1⟩
  have HN := kH (HN.out.onl m1.2 HNZ.out)
  have H1 := kH (H0.out.trans m1)
  clear m1
  go_wp2_with fail
  by_cases hs : stepB l = true
  ·
   have HS := kH hs
   rw [hs] at CS
   clear hs
   refine (CS.out _ H1.out.st).mono ?_
   rintro e w2 ⟨rfl, m2⟩
   have HN := kH (HN.out.onl m2.2 HNZ.out)
   have H2 := kH (H1.out.trans m2)
   clear m2
   go_wp2_with fail
   have HLT := kH HN.out.lt
   refine (CQ.out _ HS.out H2.out.st).mono ?_
   rintro e w3 ⟨t2, n2, l2, er2, rfl, r3, m3, tr2⟩
   have HN := kH (HN.out.onl m3.2 HNZ.out)
   have HR3 := kH r3
   have HT2 := kH (tr2.low (B1 := w.heap.size + 1) (by have := HLT.out; omega))
   have H3 := kH (H2.out.trans m3)
   clear m3 r3 tr2
   unfold An.val
   have HRW := kH (RwA.new1 (w := w3) (B0 := w.heap.size + 1) HT2.out (by have := HN.out.lt; omega))
   have HN := kH (HN.out.alloc (nB n2))
   have HT2 := kH (HT2.out.below ((Below.refl _ _).alloc (Nat.le_refl _) (nB n2)))
   have H3 := kH (H3.out.alloc (nB n2))
   go_wp2_with fail
   refine (CM.out _ _ _ _ _).mono ?_
   rintro e w4 ⟨rfl, hb4⟩
   have HRW := kH (HRW.out.below hb4)
   have HN := kH (HN.out.below hb4)
   have HT2 := kH (HT2.out.below hb4)
   have H4 := kH (H3.out.below hb4)
   clear hb4
   unfold An.val
   obtain ⟨z0, z1, z2, z3, zk0, zk1, zk2, zk3⟩ := HN.out.cells
   go_wp2_with fail
   have HPD := kH (BlkA.putA HN.out ⟨bs oField, ⟨#[]⟩, 0, some ⟨w3.heap.size, 0, none⟩, 1, 1⟩)
   have HMD := kH (Mv.putA H4.out (Nat.le_refl _) HK.out ⟨bs oField, ⟨#[]⟩, 0, some ⟨w3.heap.size, 0, none⟩, 1, 1⟩)
   have HTD := kH (TreeP.putA (HRW.out.nd oField) (g := w.heap.size) (fun k hk _ => by omega) ⟨bs oField, ⟨#[]⟩, 0, some ⟨w3.heap.size, 0, none⟩, 1, 1⟩)
   refine leaves_cons (f := 65) (args := #[.pointer (some ⟨K.b, 0, none⟩)]) (by simp) (by simp [go_sem]) ?_
   refine (CL.out _ _ .returning _ HMD.out.st).mono ?_
   rintro e u' w9 ⟨rfl, rfl, m9⟩
   obtain ⟨y0, y1, y2, y3, yk0, yk1, yk2, yk3⟩ := (HPD.out.onl m9.2 HNZ.out).cells
   exact ⟨An.val ⟨bs oField, ⟨#[]⟩, 0, some ⟨w3.heap.size, 0, none⟩, 1, 1⟩, by simp [results, Tryz.results127, go_sem, An.val, y0, y1, y2, y3], _, _, _, _, rfl, by rw [HSP.out]; unfold fieldP; rw [if_pos HS.out]; exact HR3.out.bnd (Res.ret HR3.out.ne), HMD.out.trans m9, (HTD.out.onl m9.2 (by have := HK.out; omega)).low (Nat.le_succ _)⟩
  ·
   have HS := kH hs
   rw [show stepB l = false from by simpa using hs] at CS
   clear hs
   refine (CS.out _ H1.out.st).mono ?_
   rintro e w2 ⟨rfl, m2⟩
   have HN := kH (HN.out.onl m2.2 HNZ.out)
   have H2 := kH (H1.out.trans m2)
   clear m2
   go_wp2_with fail
   have HLT := kH HN.out.lt
   refine (CP.out _ H2.out.st).mono ?_
   rintro e w3 ⟨t2, n2, l2, er2, rfl, r3, m3, tr2⟩
   have HN := kH (HN.out.onl m3.2 HNZ.out)
   have HR3 := kH r3
   have HT2 := kH (tr2.low (B1 := w.heap.size + 1) (by have := HLT.out; omega))
   have H3 := kH (H2.out.trans m3)
   clear m3 r3 tr2
   unfold An.val
   have HRW := kH (RwA.new1 (w := w3) (B0 := w.heap.size + 1) HT2.out (by have := HN.out.lt; omega))
   have HN := kH (HN.out.alloc (nB n2))
   have HT2 := kH (HT2.out.below ((Below.refl _ _).alloc (Nat.le_refl _) (nB n2)))
   have H3 := kH (H3.out.alloc (nB n2))
   go_wp2_with fail
   refine (CM.out _ _ _ _ _).mono ?_
   rintro e w4 ⟨rfl, hb4⟩
   have HRW := kH (HRW.out.below hb4)
   have HN := kH (HN.out.below hb4)
   have HT2 := kH (HT2.out.below hb4)
   have H4 := kH (H3.out.below hb4)
   clear hb4
   unfold An.val
   obtain ⟨z0, z1, z2, z3, zk0, zk1, zk2, zk3⟩ := HN.out.cells
   go_wp2_with fail
   have HPD := kH (BlkA.putA HN.out ⟨bs oField, ⟨#[]⟩, 0, some ⟨w3.heap.size, 0, none⟩, 1, 1⟩)
   have HMD := kH (Mv.putA H4.out (Nat.le_refl _) HK.out ⟨bs oField, ⟨#[]⟩, 0, some ⟨w3.heap.size, 0, none⟩, 1, 1⟩)
   have HTD := kH (TreeP.putA (HRW.out.nd oField) (g := w.heap.size) (fun k hk _ => by omega) ⟨bs oField, ⟨#[]⟩, 0, some ⟨w3.heap.size, 0, none⟩, 1, 1⟩)
   refine leaves_cons (f := 65) (args := #[.pointer (some ⟨K.b, 0, none⟩)]) (by simp) (by simp [go_sem]) ?_
   refine (CL.out _ _ .returning _ HMD.out.st).mono ?_
   rintro e u' w9 ⟨rfl, rfl, m9⟩
   obtain ⟨y0, y1, y2, y3, yk0, yk1, yk2, yk3⟩ := (HPD.out.onl m9.2 HNZ.out).cells
   exact ⟨An.val ⟨bs oField, ⟨#[]⟩, 0, some ⟨w3.heap.size, 0, none⟩, 1, 1⟩, by simp [results, Tryz.results127, go_sem, An.val, y0, y1, y2, y3], _, _, _, _, rfl, by rw [HSP.out]; unfold fieldP; rw [if_neg HS.out]; exact HR3.out.bnd (Res.ret HR3.out.ne), HMD.out.trans m9, (HTD.out.onl m9.2 (by have := HK.out; omega)).low (Nat.le_succ _)⟩
end Go.Proofs.YtmbfdkiejneheaaGreatDoor

namespace Go.Proofs.YtmbfdkiejneheaaGreatDoor
open Go.RowKit

theorem Res.unsingle {X : TR PT} {l : List Tok} {er er2 : ErO} {t : PT} {l2 : List Tok} (h : Res (Go.Proofs.YtmbfdkiejneheaaGreatDoor.bnd X fun t l2 => .ok ([t], l2)) l er [t] l2 er2) : Res X l er t l2 er2 := by
 refine ⟨h.suf, h.ne, ?_⟩
 cases X with
 | error e =>
  rcases h.alt with ⟨h1, _⟩ | ⟨e2, h1, h2⟩
  ·
   cases h1
  ·
   rw [bnd_err] at h1
   injection h1 with h1
   exact .inr ⟨e2, by rw [h1], h2⟩
 | ok x =>
  obtain ⟨t1, l1⟩ := x
  rcases h.alt with ⟨h1, h2⟩ | ⟨e2, h1, _⟩
  ·
   simp only [bnd_ok] at h1
   injection h1 with h1
   injection h1 with h3 h4
   injection h3 with h3
   subst h3; subst h4
   exact .inl ⟨rfl, h2⟩
  ·
   cases h1
/-- The one node of a row. -/
theorem RwA.one {w : World} {n0 : Nat} {ts : List PT} {n : An} {p : Option Addr} {c : Nat} (h : RwA w n0 ts [n] (.slice p 1 c)) : ∃ t g, ts = [t] ∧ p = some ⟨g, 0, none⟩ ∧ TreeP w (fun k => n0 ≤ k) t n ∧ (w.cell? ⟨g, 0, none⟩ = some (.string n.op) ∧ w.cell? ⟨g, 1, none⟩ = some (.string n.tx) ∧ w.cell? ⟨g, 2, none⟩ = some (.int .i64 n.pl) ∧ w.cell? ⟨g, 3, none⟩ = some (.slice n.kp n.kn n.kc)) := by
 obtain ⟨g, c', hv, _⟩ := rg_own_succ (n := 0) h.own
 injection hv with hv _ _
 subst hv
 have h1 := h.tr
 have hl := h1.len
 rcases ts with _ | ⟨t, _ | ⟨u, r⟩⟩
 ·
  simp at hl
 ·
  unfold TreesP at h1
  obtain ⟨n1, r1, e1, h2, _⟩ := h1
  obtain ⟨rfl, rfl⟩ := List.cons.inj e1
  exact ⟨t, g, rfl, rfl, h2.kept' (fun _ _ _ => rfl) (fun _ hk _ => hk.1), (anRow_cells (n := 1) h.own 0 n rfl).1⟩
 ·
  simp at hl
set_option maxHeartbeats 8000000 in
set_option maxRecDepth 100000 in
theorem pprim_any {reOk : List UInt8 → Bool} {K : Ps} {m : Nat} (HRe : ReOk reOk) (IE : OkE reOk K m 59 fun R pr => R.E pr) (IP : OkN reOk K m 124 fun R _ => primP reOk R) (dp : Nat) (pr : Bool) (l : List Tok) (er : ErO) (w : World) (hd : DpOk dp l) (hl : l.length ≤ m) (h : Pst w K l dp pr er) :
  Calls Tryz.prog 124 #[.pointer (some ⟨K.b, 0, none⟩)] w (NdPost K w w.heap.size l (primP reOk (rcP reOk (50 - dp)) l) dp pr er) := by
 have CT := kH (ptok_any K l dp pr er)
 have CN := kH (pnext_any K l dp pr er)
 have CX := kH (prefuse_any K l dp pr er)
 have CB := kH (pcomes_any K l dp pr er [40])
 have CD := kH (ptake_any K l dp pr er [36])
 have CM := kH fun o t p n c W => pnamed_any o t p n c W
 have CPt := kH fun W hW => ppat_any HRe K dp pr l er W hW
 have CEl := kH fun W hW => pelem_any IE oVar dp pr l er W hd hl hW
 have CBu := kH fun W hk hW => pbuiltin_any IE dp pr l er W hd hl hk hW
 have CLi := kH fun W (hk : (tk l).k ≠ 0) hW => plist_any IE dp pr (nx l) er W (hd.live (Nat.le_refl _) (two_of h.tll hk)) (by have := h.tll.nx.2.2.2 hk; omega) hW
 have hd50 : (tk l).k ≠ 0 → dp ≤ 50 := fun hk => by
  have := h.tll.nx.2.2.2 hk
  have := h.tll.nx.2.2.1.pos
  rcases hd with h1 | ⟨_, h1⟩ <;> omega
 have CFi := kH fun W (hk : (tk l).k ≠ 0) hW => pfield_any IP dp pr (nx l) er W (hd50 hk) (by have := h.tll.nx.2.2.2 hk; omega) hW
 have CW := kH fun W (hc : fx l = [40]) hW => pwithin1_any (f := 67) cfS (G := singleP ((rcP reOk (50 - dp)).E false)) (l := l) (m := m) (fun l2 er2 W2 hs2 h2 hw => psingle1_any IE dp false l2 er2 W2 (hd.live (Nat.le_refl _) (two_of h.tll (fx_kind hc (by simp)))) h2 hw) [40] [41] pr er W (.inr ⟨hc, by simp, hl⟩) hW
 have HTL := kH h.tll
 have hf := Tryz.fldK (tk l).k (tk l).a ⟨(tk l).t.toArray⟩
 unfold oVar at CEl
 have HK : Hid (K.b < w.heap.size ∧ K.g < w.heap.size) := kH ⟨h.lt, h.glt⟩
 have HNZ : Hid (w.heap.size ≠ K.b) := kH (by have := HK.out; omega)
 have HN := kH (BlkA.new0 w)
 have H0 := kH ((Mv.refl h).alloc zN)
 have HSZ : Hid (w.heap.size + 1 = (w.alloc zN).heap.size) := kH (by simp)
 clear HRe IE IP hd hl hd50 h

 by_cases h2 : (tk l).k = 2
 ·
  have HX : Hid (primP reOk (rcP reOk (50 - dp)) l = .ok (named oNum (tk l) [], nx l)) := kH (by unfold primP; rw [if_pos h2])
  have HK0 : Hid ((tk l).k ≠ 0) := kH (by omega)
  have g2 : ((((tk l).k : Nat) : Int) == 2) = true := by simp [h2]
  clear h2
  go_enter Tryz.func124, Tryz.ntmps124
  go_wp2_with fail
  generalize w.alloc zN = w0 at *
  refine (CT.out _ H0.out.st).mono ?_
  rintro e w1 ⟨rfl, m1⟩
  have HN := kH (HN.out.onl m1.2 HNZ.out)
  have H1 := kH (H0.out.trans m1)
  clear m1
  unfold tokV
  go_wp2_with fail
  refine (CN.out _ H1.out.st).mono ?_
  rintro e w2 ⟨rfl, m2⟩
  have HN := kH (HN.out.onl m2.2 HNZ.out)
  have H2 := kH (H1.out.trans m2)
  clear m2
  unfold tokV
  go_wp2_with fail
  refine (CM.out _ (tk l) _ _ _ _).mono ?_
  rintro e w3 ⟨rfl, hb3⟩
  have HN := kH (HN.out.below hb3)
  have H3 := kH (H2.out.below hb3)
  clear hb3
  unfold An.val
  obtain ⟨z0, z1, z2, z3, zk0, zk1, zk2, zk3⟩ := HN.out.cells
  go_wp2_with fail
  exact bodyPost_ret (v := An.val ⟨bs oNum, bs (tk l).t, (tk l).a, none, 0, 0⟩) (by simp [results, Tryz.results124, go_sem, An.val, z0, z1, z2, z3] <;> rfl) rfl (NdPost.put (n := ⟨bs oNum, bs (tk l).t, (tk l).a, none, 0, 0⟩) (by rw [HX.out]; exact Res.ret' HTL.out.nx.1 HTL.out.nx.2.1) H3.out ((RwA.nil _ _).named oNum (tk l)) HK.out)
 ·
  by_cases h3 : (tk l).k = 3
  ·
   have HX : Hid (primP reOk (rcP reOk (50 - dp)) l = .ok (named oStr (tk l) [], nx l)) := kH (by unfold primP; rw [if_neg h2]; rw [if_pos h3])
   have HK0 : Hid ((tk l).k ≠ 0) := kH (by omega)
   have g2 : ((((tk l).k : Nat) : Int) == 2) = false := by simp [h3]
   have g3 : ((((tk l).k : Nat) : Int) == 3) = true := by simp [h3]
   clear h2 h3
   go_enter Tryz.func124, Tryz.ntmps124
   go_wp2_with fail
   generalize w.alloc zN = w0 at *
   refine (CT.out _ H0.out.st).mono ?_
   rintro e w1 ⟨rfl, m1⟩
   have HN := kH (HN.out.onl m1.2 HNZ.out)
   have H1 := kH (H0.out.trans m1)
   clear m1
   unfold tokV
   go_wp2_with fail
   refine (CN.out _ H1.out.st).mono ?_
   rintro e w2 ⟨rfl, m2⟩
   have HN := kH (HN.out.onl m2.2 HNZ.out)
   have H2 := kH (H1.out.trans m2)
   clear m2
   unfold tokV
   go_wp2_with fail
   refine (CM.out _ (tk l) _ _ _ _).mono ?_
   rintro e w3 ⟨rfl, hb3⟩
   have HN := kH (HN.out.below hb3)
   have H3 := kH (H2.out.below hb3)
   clear hb3
   unfold An.val
   obtain ⟨z0, z1, z2, z3, zk0, zk1, zk2, zk3⟩ := HN.out.cells
   go_wp2_with fail
   exact bodyPost_ret (v := An.val ⟨bs oStr, bs (tk l).t, (tk l).a, none, 0, 0⟩) (by simp [results, Tryz.results124, go_sem, An.val, z0, z1, z2, z3] <;> rfl) rfl (NdPost.put (n := ⟨bs oStr, bs (tk l).t, (tk l).a, none, 0, 0⟩) (by rw [HX.out]; exact Res.ret' HTL.out.nx.1 HTL.out.nx.2.1) H3.out ((RwA.nil _ _).named oStr (tk l)) HK.out)
  ·
   by_cases h4 : (tk l).k = 4
   ·
    have HX : Hid (primP reOk (rcP reOk (50 - dp)) l = patP reOk l) := kH (by unfold primP; rw [if_neg h2]; rw [if_neg h3]; rw [if_pos h4]; rfl)
    have HK0 : Hid ((tk l).k ≠ 0) := kH (by omega)
    have g2 : ((((tk l).k : Nat) : Int) == 2) = false := by simp [h4]
    have g3 : ((((tk l).k : Nat) : Int) == 3) = false := by simp [h4]
    have g4 : ((((tk l).k : Nat) : Int) == 4) = true := by simp [h4]
    clear h2 h3 h4
    go_enter Tryz.func124, Tryz.ntmps124
    go_wp2_with fail
    generalize w.alloc zN = w0 at *
    refine (CT.out _ H0.out.st).mono ?_
    rintro e w1 ⟨rfl, m1⟩
    have HN := kH (HN.out.onl m1.2 HNZ.out)
    have H1 := kH (H0.out.trans m1)
    clear m1
    unfold tokV
    go_wp2_with fail
    have HLT := kH HN.out.lt
    refine (CPt.out _ H1.out.st).mono ?_
    rintro e w2 ⟨t2, n2, l2, er2, rfl, r2, m2, tr2⟩
    have HN := kH (HN.out.onl m2.2 HNZ.out)
    have HR2 := kH r2
    have HT2 := kH (tr2.low (B1 := w.heap.size + 1) (by have := HLT.out; omega))
    have H2 := kH (H1.out.trans m2)
    clear m2 r2 tr2
    unfold An.val
    obtain ⟨z0, z1, z2, z3, zk0, zk1, zk2, zk3⟩ := HN.out.cells
    go_wp2_with fail
    exact bodyPost_ret (v := An.val n2) (by simp [results, Tryz.results124, go_sem, An.val, z0, z1, z2, z3]) rfl (NdPost.put (n := n2) (by rw [HX.out]; exact HR2.out) H2.out (HT2.out) HK.out)
   ·
    by_cases h5 : (tk l).k = 5
    ·
     have HX : Hid (primP reOk (rcP reOk (50 - dp)) l = elemP (rcP reOk (50 - dp)) oVar l) := kH (by unfold primP; rw [if_neg h2]; rw [if_neg h3]; rw [if_neg h4]; rw [if_pos h5])
     have HK0 : Hid ((tk l).k ≠ 0) := kH (by omega)
     have g2 : ((((tk l).k : Nat) : Int) == 2) = false := by simp [h5]
     have g3 : ((((tk l).k : Nat) : Int) == 3) = false := by simp [h5]
     have g4 : ((((tk l).k : Nat) : Int) == 4) = false := by simp [h5]
     have g5 : ((((tk l).k : Nat) : Int) == 5) = true := by simp [h5]
     clear h2 h3 h4 h5
     go_enter Tryz.func124, Tryz.ntmps124
     go_wp2_with fail
     generalize w.alloc zN = w0 at *
     refine (CT.out _ H0.out.st).mono ?_
     rintro e w1 ⟨rfl, m1⟩
     have HN := kH (HN.out.onl m1.2 HNZ.out)
     have H1 := kH (H0.out.trans m1)
     clear m1
     unfold tokV
     go_wp2_with fail
     have HLT := kH HN.out.lt
     refine (CEl.out _ H1.out.st).mono ?_
     rintro e w2 ⟨t2, n2, l2, er2, rfl, r2, m2, tr2⟩
     have HN := kH (HN.out.onl m2.2 HNZ.out)
     have HR2 := kH r2
     have HT2 := kH (tr2.low (B1 := w.heap.size + 1) (by have := HLT.out; omega))
     have H2 := kH (H1.out.trans m2)
     clear m2 r2 tr2
     unfold An.val
     obtain ⟨z0, z1, z2, z3, zk0, zk1, zk2, zk3⟩ := HN.out.cells
     go_wp2_with fail
     exact bodyPost_ret (v := An.val n2) (by simp [results, Tryz.results124, go_sem, An.val, z0, z1, z2, z3]) rfl (NdPost.put (n := n2) (by rw [HX.out]; exact HR2.out) H2.out (HT2.out) HK.out)
    ·
     by_cases h6 : (tk l).k = 6
     ·
      have HX : Hid (primP reOk (rcP reOk (50 - dp)) l = bnd (listP ((rcP reOk (50 - dp)).E false) (nx l)) fun ts l2 => .ok (named oCall (tk l) ts, l2)) := kH (by unfold primP; rw [if_neg h2]; rw [if_neg h3]; rw [if_neg h4]; rw [if_neg h5]; rw [if_pos h6])
      have HK0 : Hid ((tk l).k ≠ 0) := kH (by omega)
      have g2 : ((((tk l).k : Nat) : Int) == 2) = false := by simp [h6]
      have g3 : ((((tk l).k : Nat) : Int) == 3) = false := by simp [h6]
      have g4 : ((((tk l).k : Nat) : Int) == 4) = false := by simp [h6]
      have g5 : ((((tk l).k : Nat) : Int) == 5) = false := by simp [h6]
      have g6 : ((((tk l).k : Nat) : Int) == 6) = true := by simp [h6]
      clear h2 h3 h4 h5 h6
      go_enter Tryz.func124, Tryz.ntmps124
      go_wp2_with fail
      generalize w.alloc zN = w0 at *
      refine (CT.out _ H0.out.st).mono ?_
      rintro e w1 ⟨rfl, m1⟩
      have HN := kH (HN.out.onl m1.2 HNZ.out)
      have H1 := kH (H0.out.trans m1)
      clear m1
      unfold tokV
      go_wp2_with fail
      refine (CN.out _ H1.out.st).mono ?_
      rintro e w2 ⟨rfl, m2⟩
      have HN := kH (HN.out.onl m2.2 HNZ.out)
      have H2 := kH (H1.out.trans m2)
      clear m2
      have HBHT1 : Hid (w2.heap.size ≠ K.b) := kH (by have := H2.out.st.lt; omega)
      have HN := kH (HN.out.alloc (.cells #[.int .i64 ((tk l)).k, .string ⟨((tk l)).t.toArray⟩, .int .i64 ((tk l)).a] 60))
      have HT1 := kH (BlkT.new w2 (tk l))
      have H2 := kH (H2.out.alloc (.cells #[.int .i64 ((tk l)).k, .string ⟨((tk l)).t.toArray⟩, .int .i64 ((tk l)).a] 60))
      unfold tokV
      go_wp2_with fail
      have HN := kH (HN.out.drew)
      have HT1 := kH (HT1.out.drew)
      have H2 := kH H2.out.drew
      refine wp_region_L (st := [4]) (S := fun Z => BlkT Z w2.heap.size (tk l)) (by kernel_rfl) (HT1.out) (fun hHeld => ?_)
      generalize (w2.alloc (.cells #[.int .i64 ((tk l)).k, .string ⟨((tk l)).t.toArray⟩, .int .i64 ((tk l)).a] 60)).drew = wd2 at *
      refine tkL 0 (v := ?_) rfl ?_ ?_
      rotate_left
      ·
       (intro w hSw; obtain ⟨d0, d1, d2, dk0, dk1, dk2⟩ := BlkT.cells hSw; go_simp; try with_reducible rfl)
      try simp only [nrm]
      refine tkL 1 (v := ?_) rfl ?_ ?_
      rotate_left
      ·
       (intro w hSw; obtain ⟨d0, d1, d2, dk0, dk1, dk2⟩ := BlkT.cells hSw; go_simp; try with_reducible rfl)
      try simp only [nrm]
      refine rdL 2 rfl (fun K2 hK => ?_)
      go_simp
      have HLT := kH HN.out.lt
      refine (CLi.out _ HK0.out H2.out.st).mono ?_
      rintro e w3 ⟨ts, ns, p, c, l3, er3, rfl, r3, m3, rw3, ln3⟩
      have HN := kH (HN.out.onl m3.2 HNZ.out)
      have HT1 := kH (HT1.out.onl m3.2 HBHT1.out)
      have HR3 := kH r3
      have HW3 := kH (rw3.low (n1 := w.heap.size + 1) (by have := HLT.out; omega))
      have H3 := kH (H2.out.trans m3)
      clear m3 r3 rw3 ln3
      refine hK.out _ _ (HT1.out) (fun hHeld => ?_)
      clear hK K2
      try simp only [nrm]
      refine rdL 3 rfl (fun K2 hK => ?_)
      go_simp
      refine (CM.out _ (tk l) _ _ _ _).mono ?_
      rintro e w4 ⟨rfl, hb4⟩
      have HN := kH (HN.out.below hb4)
      have HT1 := kH (HT1.out.below hb4)
      have HW3 := kH (HW3.out.below hb4)
      have H4 := kH (H3.out.below hb4)
      clear hb4
      unfold An.val
      refine hK.out _ _ (HT1.out) (fun hHeld => ?_)
      clear hK K2
      try simp only
      refine wpAnyL_ready (rs := [4]) (by kernel_rfl) (by simp) ?_
      refine AllReadyL.store (o := _) rfl (by decide) (by decide) (fun K2 hK => ?_) AllReadyL.nil
      obtain ⟨z0, z1, z2, z3, zk0, zk1, zk2, zk3⟩ := HN.out.cells
      go_simp
      refine hK.out _ _ ?_
      clear hK K2
      try simp only [nrm]
      refine wpAnyL_done (by kernel_rfl) ?_ _
      go_wp2_with fail
      exact bodyPost_ret (v := An.val ⟨bs oCall, bs (tk l).t, (tk l).a, p, ns.length, c⟩) (by simp [results, Tryz.results124, go_sem, An.val, z0, z1, z2, z3] <;> rfl) rfl (NdPost.put (n := ⟨bs oCall, bs (tk l).t, (tk l).a, p, ns.length, c⟩) (by rw [HX.out]; exact (HR3.out.bnd (Res.ret HR3.out.ne)).pre HTL.out.nx.1) H4.out (HW3.out.named oCall (tk l)) HK.out)
     ·
      by_cases h9 : (tk l).k = 9
      ·
       have HX : Hid (primP reOk (rcP reOk (50 - dp)) l = builtinP (rcP reOk (50 - dp)) l) := kH (by unfold primP; rw [if_neg h2]; rw [if_neg h3]; rw [if_neg h4]; rw [if_neg h5]; rw [if_neg h6]; rw [if_pos h9])
       have HK0 : Hid ((tk l).k ≠ 0) := kH (by omega)
       have g2 : ((((tk l).k : Nat) : Int) == 2) = false := by simp [h9]
       have g3 : ((((tk l).k : Nat) : Int) == 3) = false := by simp [h9]
       have g4 : ((((tk l).k : Nat) : Int) == 4) = false := by simp [h9]
       have g5 : ((((tk l).k : Nat) : Int) == 5) = false := by simp [h9]
       have g6 : ((((tk l).k : Nat) : Int) == 6) = false := by simp [h9]
       have g9 : ((((tk l).k : Nat) : Int) == 9) = true := by simp [h9]
       clear h2 h3 h4 h5 h6 h9
       go_enter Tryz.func124, Tryz.ntmps124
       go_wp2_with fail
       generalize w.alloc zN = w0 at *
       refine (CT.out _ H0.out.st).mono ?_
       rintro e w1 ⟨rfl, m1⟩
       have HN := kH (HN.out.onl m1.2 HNZ.out)
       have H1 := kH (H0.out.trans m1)
       clear m1
       unfold tokV
       go_wp2_with fail
       have HLT := kH HN.out.lt
       refine (CBu.out _ HK0.out H1.out.st).mono ?_
       rintro e w2 ⟨t2, n2, l2, er2, rfl, r2, m2, tr2⟩
       have HN := kH (HN.out.onl m2.2 HNZ.out)
       have HR2 := kH r2
       have HT2 := kH (tr2.low (B1 := w.heap.size + 1) (by have := HLT.out; omega))
       have H2 := kH (H1.out.trans m2)
       clear m2 r2 tr2
       unfold An.val
       obtain ⟨z0, z1, z2, z3, zk0, zk1, zk2, zk3⟩ := HN.out.cells
       go_wp2_with fail
       exact bodyPost_ret (v := An.val n2) (by simp [results, Tryz.results124, go_sem, An.val, z0, z1, z2, z3]) rfl (NdPost.put (n := n2) (by rw [HX.out]; exact HR2.out) H2.out (HT2.out) HK.out)
      ·
       by_cases hb : fx l = [40]
       ·
        have HX : Hid (primP reOk (rcP reOk (50 - dp)) l = withinP [40] ((rcP reOk (50 - dp)).E false) [41] l) := kH (by unfold primP; rw [if_neg h2]; rw [if_neg h3]; rw [if_neg h4]; rw [if_neg h5]; rw [if_neg h6]; rw [if_neg h9]; rw [if_pos hb])
        have HB := kH hb
        rw [decide_eq_true hb] at CB
        clear hb
        have g2 : ((((tk l).k : Nat) : Int) == 2) = false := by rw [beq_eq_false_iff_ne]; omega
        have g3 : ((((tk l).k : Nat) : Int) == 3) = false := by rw [beq_eq_false_iff_ne]; omega
        have g4 : ((((tk l).k : Nat) : Int) == 4) = false := by rw [beq_eq_false_iff_ne]; omega
        have g5 : ((((tk l).k : Nat) : Int) == 5) = false := by rw [beq_eq_false_iff_ne]; omega
        have g6 : ((((tk l).k : Nat) : Int) == 6) = false := by rw [beq_eq_false_iff_ne]; omega
        have g9 : ((((tk l).k : Nat) : Int) == 9) = false := by rw [beq_eq_false_iff_ne]; omega
        clear h2 h3 h4 h5 h6 h9
        go_enter Tryz.func124, Tryz.ntmps124
        go_wp2_with fail
        generalize w.alloc zN = w0 at *
        refine (CT.out _ H0.out.st).mono ?_
        rintro e w1 ⟨rfl, m1⟩
        have HN := kH (HN.out.onl m1.2 HNZ.out)
        have H1 := kH (H0.out.trans m1)
        clear m1
        unfold tokV
        go_wp2_with fail
        refine (CB.out _ H1.out.st).mono ?_
        rintro e w2 ⟨rfl, m2⟩
        have HN := kH (HN.out.onl m2.2 HNZ.out)
        have H2 := kH (H1.out.trans m2)
        clear m2
        go_wp2_with fail
        have HLT := kH HN.out.lt
        refine (CW.out _ HB.out H2.out.st).mono ?_
        rintro e w3 ⟨ts, n2, p, c, l3, er3, rfl, r3, m3, rw3⟩
        have HN := kH (HN.out.onl m3.2 HNZ.out)
        have HR3 := kH r3
        have HW3 := kH (rw3.low (n1 := w.heap.size + 1) (by have := HLT.out; omega))
        have H3 := kH (H2.out.trans m3)
        clear m3 r3 rw3
        obtain ⟨t3, g3, rfl, rfl, ht3, c0, c1, c2, c3⟩ := HW3.out.one
        have HT3 := kH ht3
        clear ht3
        obtain ⟨z0, z1, z2, z3, zk0, zk1, zk2, zk3⟩ := HN.out.cells
        go_wp2_with fail
        exact bodyPost_ret (v := An.val n2) (by simp [results, Tryz.results124, go_sem, An.val, z0, z1, z2, z3]) rfl (NdPost.put (n := n2) (by rw [HX.out]; exact Res.unsingle (by rw [← within_single]; exact HR3.out)) H3.out (HT3.out) HK.out)
       ·
        by_cases hd : fx l = [36]
        ·
         have HX : Hid (primP reOk (rcP reOk (50 - dp)) l = (rcP reOk (50 - dp)).F (nx l)) := kH (by unfold primP; rw [if_neg h2]; rw [if_neg h3]; rw [if_neg h4]; rw [if_neg h5]; rw [if_neg h6]; rw [if_neg h9]; rw [if_neg hb, if_pos hd])
         have HK0 : Hid ((tk l).k ≠ 0) := kH (fx_kind hd (by simp))
         rw [decide_eq_false hb] at CB
         rw [if_pos hd, decide_eq_true hd] at CD
         clear hb hd
         have g2 : ((((tk l).k : Nat) : Int) == 2) = false := by rw [beq_eq_false_iff_ne]; omega
         have g3 : ((((tk l).k : Nat) : Int) == 3) = false := by rw [beq_eq_false_iff_ne]; omega
         have g4 : ((((tk l).k : Nat) : Int) == 4) = false := by rw [beq_eq_false_iff_ne]; omega
         have g5 : ((((tk l).k : Nat) : Int) == 5) = false := by rw [beq_eq_false_iff_ne]; omega
         have g6 : ((((tk l).k : Nat) : Int) == 6) = false := by rw [beq_eq_false_iff_ne]; omega
         have g9 : ((((tk l).k : Nat) : Int) == 9) = false := by rw [beq_eq_false_iff_ne]; omega
         clear h2 h3 h4 h5 h6 h9
         go_enter Tryz.func124, Tryz.ntmps124
         go_wp2_with fail
         generalize w.alloc zN = w0 at *
         refine (CT.out _ H0.out.st).mono ?_
         rintro e w1 ⟨rfl, m1⟩
         have HN := kH (HN.out.onl m1.2 HNZ.out)
         have H1 := kH (H0.out.trans m1)
         clear m1
         unfold tokV
         go_wp2_with fail
         refine (CB.out _ H1.out.st).mono ?_
         rintro e w2 ⟨rfl, m2⟩
         have HN := kH (HN.out.onl m2.2 HNZ.out)
         have H2 := kH (H1.out.trans m2)
         clear m2
         go_wp2_with fail
         refine (CD.out _ H2.out.st).mono ?_
         rintro e w3 ⟨rfl, m3⟩
         have HN := kH (HN.out.onl m3.2 HNZ.out)
         have H3 := kH (H2.out.trans m3)
         clear m3
         go_wp2_with fail
         have HLT := kH HN.out.lt
         refine (CFi.out _ HK0.out H3.out.st).mono ?_
         rintro e w4 ⟨t2, n2, l2, er2, rfl, r4, m4, tr2⟩
         have HN := kH (HN.out.onl m4.2 HNZ.out)
         have HR4 := kH r4
         have HT2 := kH (tr2.low (B1 := w.heap.size + 1) (by have := HLT.out; omega))
         have H4 := kH (H3.out.trans m4)
         clear m4 r4 tr2
         unfold An.val
         obtain ⟨z0, z1, z2, z3, zk0, zk1, zk2, zk3⟩ := HN.out.cells
         go_wp2_with fail
         exact bodyPost_ret (v := An.val n2) (by simp [results, Tryz.results124, go_sem, An.val, z0, z1, z2, z3]) rfl (NdPost.put (n := n2) (by rw [HX.out]; exact HR4.out.pre HTL.out.nx.1) H4.out (HT2.out) HK.out)
        ·
         have HX : Hid (primP reOk (rcP reOk (50 - dp)) l = .error (refE l)) := kH (by unfold primP; rw [if_neg h2]; rw [if_neg h3]; rw [if_neg h4]; rw [if_neg h5]; rw [if_neg h6]; rw [if_neg h9]; rw [if_neg hb, if_neg hd])
         rw [decide_eq_false hb] at CB
         rw [if_neg hd, decide_eq_false hd] at CD
         clear hb hd
         have g2 : ((((tk l).k : Nat) : Int) == 2) = false := by rw [beq_eq_false_iff_ne]; omega
         have g3 : ((((tk l).k : Nat) : Int) == 3) = false := by rw [beq_eq_false_iff_ne]; omega
         have g4 : ((((tk l).k : Nat) : Int) == 4) = false := by rw [beq_eq_false_iff_ne]; omega
         have g5 : ((((tk l).k : Nat) : Int) == 5) = false := by rw [beq_eq_false_iff_ne]; omega
         have g6 : ((((tk l).k : Nat) : Int) == 6) = false := by rw [beq_eq_false_iff_ne]; omega
         have g9 : ((((tk l).k : Nat) : Int) == 9) = false := by rw [beq_eq_false_iff_ne]; omega
         clear h2 h3 h4 h5 h6 h9
         go_enter Tryz.func124, Tryz.ntmps124
         go_wp2_with fail
         generalize w.alloc zN = w0 at *
         refine (CT.out _ H0.out.st).mono ?_
         rintro e w1 ⟨rfl, m1⟩
         have HN := kH (HN.out.onl m1.2 HNZ.out)
         have H1 := kH (H0.out.trans m1)
         clear m1
         unfold tokV
         go_wp2_with fail
         refine (CB.out _ H1.out.st).mono ?_
         rintro e w2 ⟨rfl, m2⟩
         have HN := kH (HN.out.onl m2.2 HNZ.out)
         have H2 := kH (H1.out.trans m2)
         clear m2
         go_wp2_with fail
         refine (CD.out _ H2.out.st).mono ?_
         rintro e w3 ⟨rfl, m3⟩
         have HN := kH (HN.out.onl m3.2 HNZ.out)
         have H3 := kH (H2.out.trans m3)
         clear m3
         go_wp2_with fail
         refine (CX.out _ H3.out.st).mono ?_
         rintro e w4 ⟨rfl, m4⟩
         have HN := kH (HN.out.onl m4.2 HNZ.out)
         have H4 := kH (H3.out.trans m4)
         clear m4
         obtain ⟨z0, z1, z2, z3, zk0, zk1, zk2, zk3⟩ := HN.out.cells
         go_wp2_with fail
         exact bodyPost_ret (v := An.val ⟨⟨#[]⟩, ⟨#[]⟩, 0, none, 0, 0⟩) (by simp [results, Tryz.results124, go_sem, An.val, z0, z1, z2, z3] <;> rfl) rfl (NdPost.put (n := ⟨⟨#[]⟩, ⟨#[]⟩, 0, none, 0, 0⟩) (by rw [HX.out]; exact Res.fail (PT.mk [] [] 0 []) HTL.out.ne rfl) H4.out (TreeP.leaf _ _ [] [] 0) HK.out)
end Go.Proofs.YtmbfdkiejneheaaGreatDoor
