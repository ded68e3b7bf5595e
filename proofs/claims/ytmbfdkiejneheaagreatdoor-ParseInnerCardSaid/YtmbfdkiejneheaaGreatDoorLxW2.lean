/-
 CONTRACTS of layer 11's functions on blanks, numbers, signs, names and backslashes. Each reads alone. Condition: texts of at most 100000 bytes.
-/
import Derived.Test.YtmbfdkiejneheaaGreatDoorPaXG
import Derived.Test.YtmbfdkiejneheaaGreatDoorShelf
import Derived.Test.YtmbfdkiejneheaaGreatDoorLxM
import Derived.Test.YtmbfdkiejneheaaGreatDoorRows
import Derived.WalkKit
import Derived.WalkSpells
import Derived.WalkLawsBesides
import Derived.IntWalk
import Derived.WalkMore
import Derived.ScopeJumps
import Derived.Lib.Hide
import Derived.Below
namespace Go.Proofs.YtmbfdkiejneheaaGreatDoor
open Go.RowKit

theorem item_eq (reOk : List UInt8 → Bool) (l : List Tok) : itemP reOk l =
  if fx l = [66, 69, 71, 73, 78] then bnd (blockP (stP reOk 50) (nx l)) fun b l2 => .ok (nd [98, 101, 103, 105, 110] [b], l2)
  else if fx l = [69, 78, 68] then bnd (blockP (stP reOk 50) (nx l)) fun b l2 => .ok (nd [101, 110, 100] [b], l2)
  else if fx l = [102, 117, 110, 99, 116, 105, 111, 110] then funcP reOk (nx l)
  else if fx l = [123] then bnd (blockP (stP reOk 50) l) fun b l2 => .ok (nd oRule [nd [97, 108, 119, 97, 121, 115] [], b], l2)
  else ruleP reOk l := rfl
set_option maxHeartbeats 8000000 in
set_option maxRecDepth 100000 in
theorem pitem_any {reOk : List UInt8 → Bool} {K : Ps} (HRe : ReOk reOk) (HS : ∀ m, OkS reOk K m) (l : List Tok) (er : ErO) (w : World) (h : Pst w K l 0 false er) :
  Calls Tryz.prog 23 #[.pointer (some ⟨K.b, 0, none⟩)] w (NdPost K w w.heap.size l (itemP reOk l) 0 false er) := by
 have C1 := kH (ptake_any K l 0 false er [66, 69, 71, 73, 78])
 have C2 := kH (ptake_any K l 0 false er [69, 78, 68])
 have C3 := kH (ptake_any K l 0 false er [102, 117, 110, 99, 116, 105, 111, 110])
 have C4 := kH (pcomes_any K l 0 false er [123])
 have CB := kH fun l1 W hW => pblock_any (HS (l1.length + 1)) 0 l1 er W (by decide) (.inl (Nat.lt_succ_self _)) hW
 have CF := kH fun W hW => pfunc_any HS (nx l) er W hW
 have CR := kH fun W hW => prule_any HRe HS l er W hW
 have CM := kH fun o p n c W => pnode_any o p n c W
 have HTL := kH h.tll.nx
 have HK : Hid (K.b < w.heap.size ∧ K.g < w.heap.size) := kH ⟨h.lt, h.glt⟩
 have HNZ : Hid (w.heap.size ≠ K.b) := kH (by have := HK.out; omega)
 have HN := kH (BlkA.new0 w)
 have H0 := kH ((Mv.refl h).alloc zN)
 have HSZ : Hid (w.heap.size + 1 = (w.alloc zN).heap.size) := kH (by simp)
 clear HRe HS h
 by_cases hc1 : fx l = [66, 69, 71, 73, 78]
 ·
  have HY := kH hc1
  rw [if_pos hc1, decide_eq_true hc1] at C1
  clear hc1
  go_enter Tryz.func23, Tryz.ntmps23
  go_wp2_with fail
  generalize w.alloc zN = w0 at *
  refine (C1.out _ H0.out.st).mono ?_
  rintro e w1 ⟨rfl, m1⟩
  have HN := kH (HN.out.onl m1.2 HNZ.out)
  have H1 := kH (H0.out.trans m1)
  clear m1
  go_wp2_with fail
  have HLT := kH HN.out.lt
  refine (CB.out _ _ H1.out.st).mono ?_
  rintro e w2 ⟨t, n, l5, er5, rfl, r2, m2, tr5⟩
  have HN := kH (HN.out.onl m2.2 HNZ.out)
  have HR2 := kH r2
  have HT5 := kH (tr5.low (B1 := w.heap.size + 1) (by have := HLT.out; omega))
  have H2 := kH (H1.out.trans m2)
  clear m2 r2 tr5
  unfold An.val
  have HRW := kH (RwA.new1 (w := w2) (B0 := w.heap.size + 1) HT5.out (by have := HN.out.lt; omega))
  have HN := kH (HN.out.alloc (nB n))
  have H2 := kH (H2.out.alloc (nB n))
  go_wp2_with fail
  refine (CM.out _ _ _ _ _).mono ?_
  rintro e w3 ⟨rfl, hb3⟩
  have HRW := kH (HRW.out.below hb3)
  have HN := kH (HN.out.below hb3)
  have H3 := kH (H2.out.below hb3)
  clear hb3
  unfold An.val
  obtain ⟨z0, z1, z2, z3, zk0, zk1, zk2, zk3⟩ := HN.out.cells
  go_wp2_with fail
  exact bodyPost_ret (v := An.val ⟨bs [98, 101, 103, 105, 110], ⟨#[]⟩, 0, some ⟨w2.heap.size, 0, none⟩, 1, 1⟩) (by simp [results, Tryz.results23, go_sem, An.val, z0, z1, z2, z3] <;> rfl) rfl (NdPost.put (n := ⟨bs [98, 101, 103, 105, 110], ⟨#[]⟩, 0, some ⟨w2.heap.size, 0, none⟩, 1, 1⟩) (by rw [item_eq, if_pos HY.out]; exact (HR2.out.bnd (Res.ret HR2.out.ne)).pre HTL.out.1) H3.out (HRW.out.nd [98, 101, 103, 105, 110]) HK.out)
 ·
  have HN1 := kH hc1
  rw [if_neg hc1, decide_eq_false hc1] at C1
  clear hc1
  by_cases hc2 : fx l = [69, 78, 68]
  ·
   have HY := kH hc2
   rw [if_pos hc2, decide_eq_true hc2] at C2
   clear hc2
   go_enter Tryz.func23, Tryz.ntmps23
   go_wp2_with fail
   generalize w.alloc zN = w0 at *
   refine (C1.out _ H0.out.st).mono ?_
   rintro e w1 ⟨rfl, m1⟩
   have HN := kH (HN.out.onl m1.2 HNZ.out)
   have H1 := kH (H0.out.trans m1)
   clear m1
   go_wp2_with fail
   refine (C2.out _ H1.out.st).mono ?_
   rintro e w2 ⟨rfl, m2⟩
   have HN := kH (HN.out.onl m2.2 HNZ.out)
   have H2 := kH (H1.out.trans m2)
   clear m2
   go_wp2_with fail
   have HLT := kH HN.out.lt
   refine (CB.out _ _ H2.out.st).mono ?_
   rintro e w3 ⟨t, n, l5, er5, rfl, r3, m3, tr5⟩
   have HN := kH (HN.out.onl m3.2 HNZ.out)
   have HR3 := kH r3
   have HT5 := kH (tr5.low (B1 := w.heap.size + 1) (by have := HLT.out; omega))
   have H3 := kH (H2.out.trans m3)
   clear m3 r3 tr5
   unfold An.val
   have HRW := kH (RwA.new1 (w := w3) (B0 := w.heap.size + 1) HT5.out (by have := HN.out.lt; omega))
   have HN := kH (HN.out.alloc (nB n))
   have H3 := kH (H3.out.alloc (nB n))
   go_wp2_with fail
   refine (CM.out _ _ _ _ _).mono ?_
   rintro e w4 ⟨rfl, hb4⟩
   have HRW := kH (HRW.out.below hb4)
   have HN := kH (HN.out.below hb4)
   have H4 := kH (H3.out.below hb4)
   clear hb4
   unfold An.val
   obtain ⟨z0, z1, z2, z3, zk0, zk1, zk2, zk3⟩ := HN.out.cells
   go_wp2_with fail
   exact bodyPost_ret (v := An.val ⟨bs [101, 110, 100], ⟨#[]⟩, 0, some ⟨w3.heap.size, 0, none⟩, 1, 1⟩) (by simp [results, Tryz.results23, go_sem, An.val, z0, z1, z2, z3] <;> rfl) rfl (NdPost.put (n := ⟨bs [101, 110, 100], ⟨#[]⟩, 0, some ⟨w3.heap.size, 0, none⟩, 1, 1⟩) (by rw [item_eq, if_neg HN1.out, if_pos HY.out]; exact (HR3.out.bnd (Res.ret HR3.out.ne)).pre HTL.out.1) H4.out (HRW.out.nd [101, 110, 100]) HK.out)
  ·
   have HN2 := kH hc2
   rw [if_neg hc2, decide_eq_false hc2] at C2
   clear hc2
   by_cases hc3 : fx l = [102, 117, 110, 99, 116, 105, 111, 110]
   ·
    have HY := kH hc3
    rw [if_pos hc3, decide_eq_true hc3] at C3
    clear hc3
    go_enter Tryz.func23, Tryz.ntmps23
    go_wp2_with fail
    generalize w.alloc zN = w0 at *
    refine (C1.out _ H0.out.st).mono ?_
    rintro e w1 ⟨rfl, m1⟩
    have HN := kH (HN.out.onl m1.2 HNZ.out)
    have H1 := kH (H0.out.trans m1)
    clear m1
    go_wp2_with fail
    refine (C2.out _ H1.out.st).mono ?_
    rintro e w2 ⟨rfl, m2⟩
    have HN := kH (HN.out.onl m2.2 HNZ.out)
    have H2 := kH (H1.out.trans m2)
    clear m2
    go_wp2_with fail
    refine (C3.out _ H2.out.st).mono ?_
    rintro e w3 ⟨rfl, m3⟩
    have HN := kH (HN.out.onl m3.2 HNZ.out)
    have H3 := kH (H2.out.trans m3)
    clear m3
    go_wp2_with fail
    have HLT := kH HN.out.lt
    refine (CF.out _ H3.out.st).mono ?_
    rintro e w4 ⟨t, n, l5, er5, rfl, r4, m4, tr5⟩
    have HN := kH (HN.out.onl m4.2 HNZ.out)
    have HR4 := kH r4
    have HT5 := kH (tr5.low (B1 := w.heap.size + 1) (by have := HLT.out; omega))
    have H4 := kH (H3.out.trans m4)
    clear m4 r4 tr5
    unfold An.val
    obtain ⟨z0, z1, z2, z3, zk0, zk1, zk2, zk3⟩ := HN.out.cells
    go_wp2_with fail
    exact bodyPost_ret (v := An.val n) (by simp [results, Tryz.results23, go_sem, An.val, z0, z1, z2, z3]) rfl (NdPost.put (n := n) (by rw [item_eq, if_neg HN1.out, if_neg HN2.out, if_pos HY.out]; exact HR4.out.pre HTL.out.1) H4.out (HT5.out) HK.out)
   ·
    have HN3 := kH hc3
    rw [if_neg hc3, decide_eq_false hc3] at C3
    clear hc3
    by_cases hc4 : fx l = [123]
    ·
     have HY := kH hc4
     rw [decide_eq_true hc4] at C4
     clear hc4
     go_enter Tryz.func23, Tryz.ntmps23
     go_wp2_with fail
     generalize w.alloc zN = w0 at *
     refine (C1.out _ H0.out.st).mono ?_
     rintro e w1 ⟨rfl, m1⟩
     have HN := kH (HN.out.onl m1.2 HNZ.out)
     have H1 := kH (H0.out.trans m1)
     clear m1
     go_wp2_with fail
     refine (C2.out _ H1.out.st).mono ?_
     rintro e w2 ⟨rfl, m2⟩
     have HN := kH (HN.out.onl m2.2 HNZ.out)
     have H2 := kH (H1.out.trans m2)
     clear m2
     go_wp2_with fail
     refine (C3.out _ H2.out.st).mono ?_
     rintro e w3 ⟨rfl, m3⟩
     have HN := kH (HN.out.onl m3.2 HNZ.out)
     have H3 := kH (H2.out.trans m3)
     clear m3
     go_wp2_with fail
     refine (C4.out _ H3.out.st).mono ?_
     rintro e w4 ⟨rfl, m4⟩
     have HN := kH (HN.out.onl m4.2 HNZ.out)
     have H4 := kH (H3.out.trans m4)
     clear m4
     go_wp2_with fail
     refine (CM.out (bs [97, 108, 119, 97, 121, 115]) none 0 0 _).mono ?_
     rintro e w5 ⟨rfl, hb5⟩
     have HN := kH (HN.out.below hb5)
     have H5 := kH (H4.out.below hb5)
     clear hb5
     have HT1 : Hid (TreeP w5 (fun k => w.heap.size + 1 ≤ k) (nd [97, 108, 119, 97, 121, 115] []) ⟨bs [97, 108, 119, 97, 121, 115], ⟨#[]⟩, 0, none, 0, 0⟩) := kH (TreeP.leaf _ _ [97, 108, 119, 97, 121, 115] [] 0)
     generalize (⟨bs [97, 108, 119, 97, 121, 115], ⟨#[]⟩, 0, none, 0, 0⟩ : An) = n at *
     unfold An.val
     go_wp2_with fail
     have HLT := kH HN.out.lt
     refine (CB.out _ _ H5.out.st).mono ?_
     rintro e w6 ⟨u, m, l5, er5, rfl, r6, m6, tu⟩
     have HN := kH (HN.out.onl m6.2 HNZ.out)
     have HT1 := kH (HT1.out.onl m6.2 (by have := HK.out; omega))
     have HR6 := kH r6
     have HU := kH (tu.low (B1 := w.heap.size + 1) (by have := HLT.out; omega))
     have H6 := kH (H5.out.trans m6)
     clear m6 r6 tu
     unfold An.val
     have HTW := kH (TreeP.two (w := w6) HT1.out HU.out (by have := HN.out.lt; omega) oRule)
     have HN := kH (HN.out.alloc (nB2 n m))
     have H6 := kH (H6.out.alloc (nB2 n m))
     go_wp2_with fail
     refine (CM.out _ _ _ _ _).mono ?_
     rintro e w7 ⟨rfl, hb7⟩
     have HN := kH (HN.out.below hb7)
     have HTW := kH (HTW.out.below hb7)
     have H7 := kH (H6.out.below hb7)
     clear hb7
     unfold An.val
     obtain ⟨z0, z1, z2, z3, zk0, zk1, zk2, zk3⟩ := HN.out.cells
     go_wp2_with fail
     exact bodyPost_ret (v := An.val ⟨bs oRule, ⟨#[]⟩, 0, some ⟨w6.heap.size, 0, none⟩, 2, 2⟩) (by simp [results, Tryz.results23, go_sem, An.val, z0, z1, z2, z3] <;> rfl) rfl (NdPost.put (n := ⟨bs oRule, ⟨#[]⟩, 0, some ⟨w6.heap.size, 0, none⟩, 2, 2⟩) (by rw [item_eq, if_neg HN1.out, if_neg HN2.out, if_neg HN3.out, if_pos HY.out]; exact HR6.out.bnd (Res.ret HR6.out.ne)) H7.out (HTW.out) HK.out)
    ·
     have HN4 := kH hc4
     rw [decide_eq_false hc4] at C4
     clear hc4
     go_enter Tryz.func23, Tryz.ntmps23
     go_wp2_with fail
     generalize w.alloc zN = w0 at *
     refine (C1.out _ H0.out.st).mono ?_
     rintro e w1 ⟨rfl, m1⟩
     have HN := kH (HN.out.onl m1.2 HNZ.out)
     have H1 := kH (H0.out.trans m1)
     clear m1
     go_wp2_with fail
     refine (C2.out _ H1.out.st).mono ?_
     rintro e w2 ⟨rfl, m2⟩
     have HN := kH (HN.out.onl m2.2 HNZ.out)
     have H2 := kH (H1.out.trans m2)
     clear m2
     go_wp2_with fail
     refine (C3.out _ H2.out.st).mono ?_
     rintro e w3 ⟨rfl, m3⟩
     have HN := kH (HN.out.onl m3.2 HNZ.out)
     have H3 := kH (H2.out.trans m3)
     clear m3
     go_wp2_with fail
     refine (C4.out _ H3.out.st).mono ?_
     rintro e w4 ⟨rfl, m4⟩
     have HN := kH (HN.out.onl m4.2 HNZ.out)
     have H4 := kH (H3.out.trans m4)
     clear m4
     go_wp2_with fail
     have HLT := kH HN.out.lt
     refine (CR.out _ H4.out.st).mono ?_
     rintro e w5 ⟨t, n, l5, er5, rfl, r5, m5, tr5⟩
     have HN := kH (HN.out.onl m5.2 HNZ.out)
     have HR5 := kH r5
     have HT5 := kH (tr5.low (B1 := w.heap.size + 1) (by have := HLT.out; omega))
     have H5 := kH (H4.out.trans m5)
     clear m5 r5 tr5
     unfold An.val
     obtain ⟨z0, z1, z2, z3, zk0, zk1, zk2, zk3⟩ := HN.out.cells
     go_wp2_with fail
     exact bodyPost_ret (v := An.val n) (by simp [results, Tryz.results23, go_sem, An.val, z0, z1, z2, z3]) rfl (NdPost.put (n := n) (by rw [item_eq, if_neg HN1.out, if_neg HN2.out, if_neg HN3.out, if_neg HN4.out]; exact HR5.out) H5.out (HT5.out) HK.out)
/-- A program's items, behind what separates them. -/
def itemsB (reOk : List UInt8 → Bool) : Nat → List Tok → List PT → TR PT
 | 0, _, _ => .error (0, 0)
 | n + 1, l, ts => if (tk l).k = 0 then .ok (nd [112, 114, 111, 103, 114, 97, 109] ts, l) else bnd (itemP reOk l) fun t l2 => itemsL reOk n l2 (ts ++ [t])
theorem itemsB_succ (reOk : List UInt8 → Bool) (n : Nat) (l : List Tok) (ts : List PT) : itemsB reOk (n + 1) l ts = if (tk l).k = 0 then .ok (nd [112, 114, 111, 103, 114, 97, 109] ts, l) else bnd (itemP reOk l) fun t l2 => itemsL reOk n l2 (ts ++ [t]) := rfl
theorem itemsB_eq (reOk : List UInt8 → Bool) (n : Nat) (l : List Tok) (ts : List PT) : itemsL reOk n l ts = itemsB reOk n (sepsP l) ts := by
 cases n with
 | zero => rfl
 | succ n => rfl
structure PrSt (K : Ps) (w : World) (reOk : List UInt8 → Bool) (X : TR PT) (l : List Tok) (er : ErO) (gk : Nat) (ns : List An) (v : Value) (wr : World) : Prop where
 ex : ∃ ts l1 er1 k, l1.length ≤ gk ∧ l1.length < k ∧ Mv K w l1 0 false er1 wr ∧ BlkA wr w.heap.size An.zero ∧ RwA wr (w.heap.size + 1) ts ns v ∧ ns.length + l1.length ≤ 5000 ∧ (∀ a l2 er2, Res (itemsB reOk k l1 ts) l1 er1 a l2 er2 → Res X l er a l2 er2)
set_option maxHeartbeats 8000000 in
set_option maxRecDepth 100000 in
theorem pprog_any {reOk : List UInt8 → Bool} {K : Ps} (HRe : ReOk reOk) (HS : ∀ m, OkS reOk K m) (l : List Tok) (er : ErO) (w : World) (h : Pst w K l 0 false er) :
  Calls Tryz.prog 16 #[.pointer (some ⟨K.b, 0, none⟩)] w (NdPost K w w.heap.size l (progP reOk l) 0 false er) := by
 have CP := kH fun l1 er1 => pseps_any K l1 0 false er1
 have CK := kH fun l1 er1 => pkind_any K l1 0 false er1 0
 have CI := kH fun l1 er1 W hW => pitem_any HRe HS l1 er1 W hW
 have CM := kH fun o p n c W => pnode_any o p n c W
 have HGI : Hid (∀ l1, Tl l1 → GoodAt true (itemP reOk l1) l1) := kH (good_item reOk)
 have HTL := kH h.tll
 have HLN : Hid (l.length ≤ 5000) := kH (by have := h.pos; omega)
 obtain ⟨i0, hi, hz0, hz1, hz2⟩ := info_parts Tryz.infoAst
 have HK : Hid (K.b < w.heap.size ∧ K.g < w.heap.size) := kH ⟨h.lt, h.glt⟩
 have HNZ : Hid (w.heap.size ≠ K.b) := kH (by have := HK.out; omega)
 have HN := kH (BlkA.new0 w)
 have H0 := kH ((Mv.refl h).alloc zN)
 have HSZ : Hid (w.heap.size + 1 = (w.alloc zN).heap.size) := kH (by simp)
 clear HRe HS h
 go_enter Tryz.func16, Tryz.ntmps16
 go_wp2_with fail
 generalize w.alloc zN = w0 at *
 refine (CP.out l er _ H0.out.st).mono ?_
 rintro e w1 ⟨rfl, m1⟩
 have HN := kH (HN.out.onl m1.2 HNZ.out)
 have H1 := kH (H0.out.trans m1)
 clear m1
 have HI : Hid (PrSt K w reOk (progP reOk l) l er l.length [] (.slice none 0 0) w1) := kH ⟨[], sepsP l, er, l.length + 1, HTL.out.seps.1.length_le, by have := HTL.out.seps.1.length_le; omega, H1.out, HN.out, RwA.nil _ _, by have := HTL.out.seps.1.length_le; have := HLN.out; simp; omega, fun a l2 er2 k => by unfold progP; rw [itemsB_eq]; exact k.pre HTL.out.seps.1⟩
 clear H1 HN H0
 go_wp2_with fail
 go_loopg [3] l.length (fun gk v3 wr => ∃ (p : Option Addr) (c : Nat) (ns : List An), v3 = .slice p ns.length c ∧ Hid (PrSt K w reOk (progP reOk l) l er gk ns (.slice p ns.length c) wr))
 case atStart => exact ⟨none, 0, [], rfl, HI⟩
 case round =>
  clear HI
  obtain ⟨p, c, ns, rfl, HS⟩ := hrel
  obtain ⟨ts, l1, er1, k, hgk, hk, hmv, hz, hrw, hcnt, hres⟩ := HS.out.ex
  have HN := kH hz
  have HRW := kH hrw
  have H1 := kH hmv
  have CK := kH (CK.out l1 er1)
  by_cases hb : (tk l1).k = 0
  ·
   have HX : Hid (Res (progP reOk l) l er (nd [112, 114, 111, 103, 114, 97, 109] ts) l1 er1) := kH (hres _ _ _ (by
    obtain ⟨k, rfl⟩ : ∃ j, k = j + 1 := ⟨k - 1, by omega⟩
    rw [itemsB_succ, if_pos hb]
    exact Res.ret hmv.st.ne))
   rw [decide_eq_true (show ((tk l1).k : Int) = 0 from by omega)] at CK
   clear hgk hk hmv hz hrw hcnt hres HS hb
   go_wp2_with fail
   refine (CK.out _ H1.out.st).mono ?_
   rintro e w2 ⟨rfl, m2⟩
   have HN := kH (HN.out.onl m2.2 HNZ.out)
   have HRW := kH (HRW.out.onl m2.2 (by have := HK.out; omega))
   have H2 := kH (H1.out.trans m2)
   clear m2
   go_wp2_with fail
   refine (CM.out _ _ _ _ _).mono ?_
   rintro e w3 ⟨rfl, hb3⟩
   have HN := kH (HN.out.below hb3)
   have HRW := kH (HRW.out.below hb3)
   have H3 := kH (H2.out.below hb3)
   clear hb3
   unfold An.val
   obtain ⟨z0, z1, z2, z3, zk0, zk1, zk2, zk3⟩ := HN.out.cells
   go_wp2_with fail
   exact bodyPost_ret (v := An.val ⟨bs [112, 114, 111, 103, 114, 97, 109], ⟨#[]⟩, 0, p, ns.length, c⟩) (by simp [results, Tryz.results16, go_sem, An.val, z0, z1, z2, z3] <;> rfl) rfl (NdPost.put (n := ⟨bs [112, 114, 111, 103, 114, 97, 109], ⟨#[]⟩, 0, p, ns.length, c⟩) (HX.out) H3.out (HRW.out.nd [112, 114, 111, 103, 114, 97, 109]) HK.out)
  ·
   have HRS : Hid (∀ t l2 er2, Res (itemP reOk l1) l1 er1 t l2 er2 → (sepsP l2).length ≤ gk - 1 ∧ gk - 1 < gk ∧ (sepsP l2).length < k - 1 ∧ ns.length + 1 + (sepsP l2).length ≤ 5000 ∧ ∀ a l3 er3, Res (itemsB reOk (k - 1) (sepsP l2) (ts ++ [t])) (sepsP l2) er2 a l3 er3 → Res (progP reOk l) l er a l3 er3) := kH (by
    intro t l2 er2 hr
    have hs := hmv.st.tll.suf hr.suf hr.ne
    have h5 := hs.seps
    have h6 := h5.1.length_le
    have h8 : 2 ≤ l1.length := by
     have h9 := hmv.st.tll.nx.2.2.2 hb
     have := hmv.st.tll.nx.2.2.1.pos
     omega
    have h10 : l2.length < l1.length := by
     rcases hr.alt with ⟨hx, rfl⟩ | ⟨e, hx, rfl, h9⟩
     ·
      have hg := HGI.out l1 hmv.st.tll
      rw [hx] at hg
      exact hg.2.2 rfl
     ·
      omega
    refine ⟨by omega, by omega, by omega, by omega, fun a l3 er3 h11 => hres a l3 er3 ?_⟩
    obtain ⟨k, rfl⟩ : ∃ j, k = j + 1 := ⟨k - 1, by omega⟩
    rw [itemsB_succ, if_neg hb]
    exact hr.bnd (by rw [itemsB_eq]; exact h11.pre h5.1))
   have HNS : Hid (ns.length ≤ 5500) := kH (by omega)
   rw [decide_eq_false (show ¬ ((tk l1).k : Int) = 0 from by omega)] at CK
   clear hgk hk hmv hz hrw hcnt hres HS hb
   go_wp2_with fail
   refine (CK.out _ H1.out.st).mono ?_
   rintro e w2 ⟨rfl, m2⟩
   have HN := kH (HN.out.onl m2.2 HNZ.out)
   have HRW := kH (HRW.out.onl m2.2 (by have := HK.out; omega))
   have H2 := kH (H1.out.trans m2)
   clear m2
   go_wp2_with fail
   have HRV : Hid (∀ g, (Value.slice p ns.length c).ownBlock = some g → w.heap.size + 1 ≤ g ∧ g < w2.heap.size) := kH (rg_own_base HRW.out.own)
   have HRB : Hid (w.heap.size + 1 ≤ w2.heap.size) := kH HN.out.lt
   have HLT := kH HN.out.lt
   refine (CI.out _ _ _ H2.out.st).mono ?_
   rintro e w3 ⟨t, n, l2, er2, rfl, r3, m3, tr⟩
   have HN := kH (HN.out.onl m3.2 HNZ.out)
   have HRW := kH (HRW.out.onl m3.2 (by have := HK.out; omega))
   have HR3 := kH r3
   have HT4 := kH tr
   have HRR := kH (HRS.out _ _ _ r3)
   have H3 := kH (H2.out.trans m3)
   clear m3 r3 tr
   unfold An.val
   clear HRS
   have HOW : Hid (w3.ownsRow (w.heap.size + 1) 25 4 (.slice p (ns.length) c) (ns.length) (anRow (ns))) := kH HRW.out.own
   have HLT := kH HN.out.lt
   go_wp2_with (at_builtin; refine wpList_append_own_at _ rfl (.tmp 11) (.tmp 14) 23 rfl (w.heap.size + 1) 25 i0 (.agg #[.string ⟨#[]⟩, .string ⟨#[]⟩, .int .i64 0, .slice none 0 0]) 4 64 Tryz.underlying23 hi hz0 hz1 hz2 rfl (by decide) (.slice p (ns.length) c) (ns.length) (anRow (ns)) rfl (HOW.out.alloc _) ⟨w3.heap.size, 0, none⟩ 1 1 (An.vals n) rfl rfl ?c1 ?c2 ?c3 ?c4 ?c5 ?_)
   case c1 => exact an_new w3 n
   case c2 => simp [An.vals, Value.oneCell']
   case c3 => have := HNS.out; unfold maxLen; omega
   case c4 => have := HNS.out; omega
   case c5 => have := HLT.out; simp; omega
   intro v4 w4 hown hgrow _ hat
   obtain ⟨g4, c4, rfl, hc9⟩ := rg_own_succ hown
   have hA := RwA.app HRW.out HT4.out (fun g hg => (HRV.out g hg).2) (HRB.out) hgrow hat hown
   have hM := Mv.app H3.out HK.out (fun g hg => by have := (HRV.out g hg).1; omega) hgrow
   have hN : BlkA w4 w.heap.size An.zero := ((grown_at hgrow (by have := HLT.out; simp; omega) (fun e => by have := (HRV.out _ e).1; omega)).trans (Below.heap_alloc w3 _ _ HLT.out)).trans HN.out
   have hL : (ns ++ [n]).length = ns.length + 1 := by rw [List.length_append, List.length_singleton]
   have H4 := kH hM
   have HN := kH hN
   have HRW := kH hA
   have HLHRW := kH hL
   clear hA hM hN hL hown hgrow hat hc9 HOW HRV HRB
   go_wp2_with fail
   refine (CP.out l2 er2 _ H4.out.st).mono ?_
   rintro e w5 ⟨rfl, m5⟩
   have HRW := kH (HRW.out.onl m5.2 (by have := HK.out; omega))
   have HN := kH (HN.out.onl m5.2 HNZ.out)
   have H5 := kH (H4.out.trans m5)
   clear m5
   go_wp2_with fail
   go_roundg (gk - 1)
   case measure => exact HRR.out.2.1
   case rel =>
    refine ⟨(some ⟨g4, 0, none⟩), c4, ns ++ [n], by rw [HLHRW.out], kH ?_⟩
    rw [HLHRW.out]
    exact ⟨ts ++ [t], sepsP l2, er2, k - 1, HRR.out.1, HRR.out.2.2.1, H5.out, HN.out, HRW.out, by rw [HLHRW.out]; exact HRR.out.2.2.2.1, HRR.out.2.2.2.2⟩
end Go.Proofs.YtmbfdkiejneheaaGreatDoor

namespace Go.Proofs.YtmbfdkiejneheaaGreatDoor
open Go.RowKit

theorem isdg_any (c : UInt8) (w : World) : Calls Tryz.prog 47 #[.int .u8 (c.toNat : Int)] w fun e w' => e = .returned (.bool (isDg c)) ∧ w' = w := by
 unfold isDg
 by_cases h1 : 48 ≤ c.toNat
 ·
  by_cases h2 : c.toNat ≤ 57
  ·
   have e1 : (48 : Int) ≤ (c.toNat : Int) := by omega
   have e2 : (c.toNat : Int) ≤ 57 := by omega
   go_enter Tryz.func47, Tryz.ntmps47
   go_wp2
   go_ret
   first | (simp; done) | (simp; omega)
  ·
   have e1 : (48 : Int) ≤ (c.toNat : Int) := by omega
   have e2 : ¬ (c.toNat : Int) ≤ 57 := by omega
   go_enter Tryz.func47, Tryz.ntmps47
   go_wp2
   go_ret
   first | (simp; done) | (simp; omega)
 ·
  have e1 : ¬ (48 : Int) ≤ (c.toNat : Int) := by omega
  go_enter Tryz.func47, Tryz.ntmps47
  go_wp2
  go_ret
  first | (simp; done) | (simp; omega)
theorem islt_any (c : UInt8) (w : World) : Calls Tryz.prog 31 #[.int .u8 (c.toNat : Int)] w fun e w' => e = .returned (.bool (isLt c)) ∧ w' = w := by
 have hw : ∀ x : Bool, isLt c = x → Hid (Calls Tryz.prog 31 #[.int .u8 (c.toNat : Int)] w fun e w' => e = .returned (.bool x) ∧ w' = w) → Calls Tryz.prog 31 #[.int .u8 (c.toNat : Int)] w fun e w' => e = .returned (.bool (isLt c)) ∧ w' = w := fun x h k => by rw [h]; exact k.out
 rcases (show (97 ≤ c.toNat ∧ c.toNat ≤ 122) ∨ (¬ 97 ≤ c.toNat ∧ 65 ≤ c.toNat ∧ c.toNat ≤ 90) ∨ (¬ 97 ≤ c.toNat ∧ 65 ≤ c.toNat ∧ ¬ c.toNat ≤ 90 ∧ c.toNat = 95) ∨ (¬ 97 ≤ c.toNat ∧ 65 ≤ c.toNat ∧ ¬ c.toNat ≤ 90 ∧ ¬ c.toNat = 95) ∨ (¬ 97 ≤ c.toNat ∧ ¬ 65 ≤ c.toNat) ∨ (97 ≤ c.toNat ∧ ¬ c.toNat ≤ 122) from by omega) with ⟨h1, h2⟩ | ⟨h1, h2, h3⟩ | ⟨h1, h2, h3, h4⟩ | ⟨h1, h2, h3, h4⟩ | ⟨h1, h2⟩ | ⟨h1, h2⟩
 ·
  refine hw true (by simp [isLt]; omega) (kH ?_)
  have e1 : (97 : Int) ≤ (c.toNat : Int) := by omega
  have e2 : (c.toNat : Int) ≤ 122 := by omega
  go_enter Tryz.func31, Tryz.ntmps31
  go_wp2
  go_ret
  first | (simp; done) | (simp; omega)
 ·
  refine hw true (by simp [isLt]; omega) (kH ?_)
  have e1 : ¬ (97 : Int) ≤ (c.toNat : Int) := by omega
  have e2 : (65 : Int) ≤ (c.toNat : Int) := by omega
  have e3 : (c.toNat : Int) ≤ 90 := by omega
  go_enter Tryz.func31, Tryz.ntmps31
  go_wp2
  go_ret
  first | (simp; done) | (simp; omega)
 ·
  refine hw true (by simp [isLt]; omega) (kH ?_)
  have e4 : (c.toNat : Int) = 95 := by omega
  go_enter Tryz.func31, Tryz.ntmps31
  rw [e4]
  go_wp2
  go_ret
  first | (simp; done) | (simp; omega)
 ·
  refine hw false (by simp [isLt]; omega) (kH ?_)
  have e1 : ¬ (97 : Int) ≤ (c.toNat : Int) := by omega
  have e2 : (65 : Int) ≤ (c.toNat : Int) := by omega
  have e3 : ¬ (c.toNat : Int) ≤ 90 := by omega
  have e4 : ¬ (c.toNat : Int) = 95 := by omega
  go_enter Tryz.func31, Tryz.ntmps31
  go_wp2
  go_ret
  first | (simp; done) | (simp; omega)
 ·
  refine hw false (by simp [isLt]; omega) (kH ?_)
  have e1 : ¬ (97 : Int) ≤ (c.toNat : Int) := by omega
  have e2 : ¬ (65 : Int) ≤ (c.toNat : Int) := by omega
  have e4 : ¬ (c.toNat : Int) = 95 := by omega
  go_enter Tryz.func31, Tryz.ntmps31
  go_wp2
  go_ret
  first | (simp; done) | (simp; omega)
 ·
  refine hw false (by simp [isLt]; omega) (kH ?_)
  have e1 : (97 : Int) ≤ (c.toNat : Int) := by omega
  have e2 : ¬ (c.toNat : Int) ≤ 122 := by omega
  have e3 : (65 : Int) ≤ (c.toNat : Int) := by omega
  have e5 : ¬ (c.toNat : Int) ≤ 90 := by omega
  have e4 : ¬ (c.toNat : Int) = 95 := by omega
  go_enter Tryz.func31, Tryz.ntmps31
  go_wp2
  go_ret
  first | (simp; done) | (simp; omega)

theorem tw_step (p : UInt8 → Bool) (s : ByteArray) (k : Nat) (h : k < s.size) (hp : p s[k] = true) : ((s.data.toList.drop k).takeWhile p).length = 1 + ((s.data.toList.drop (k + 1)).takeWhile p).length := by
 rw [drop_at s k h, List.takeWhile_cons, if_pos hp]; simp; omega
theorem tw_stop (p : UInt8 → Bool) (s : ByteArray) (k : Nat) (h : ∀ h : k < s.size, p s[k] = false) : ((s.data.toList.drop k).takeWhile p).length = 0 := by
 by_cases hk : k < s.size
 ·
  rw [drop_at s k hk, List.takeWhile_cons, if_neg (by rw [h hk]; simp)]; rfl
 ·
  rw [drop_end s k (by omega)]; rfl
set_option maxHeartbeats 1000000 in
theorem digs_any (s : ByteArray) (w : World) (hs : s.size ≤ 100000) : Calls Tryz.prog 63 #[.string s] w fun e w' => e = .returned (.int .i64 (digL s.data.toList)) ∧ w' = w := by
 have C1 := kH fun c W => isdg_any c W
 have H0 : Hid (digL s.data.toList = 0 + ((s.data.toList.drop 0).takeWhile isDg).length) := kH (by unfold digL; simp)
 generalize hD : digL s.data.toList = D at *
 clear hD
 go_enter Tryz.func63, Tryz.ntmps63
 go_wp2
 go_loop [3] (fun i => ∃ k : Nat, k ≤ s.size ∧ i = .int .i64 k ∧ Hid (D = k + ((s.data.toList.drop k).takeWhile isDg).length)) (fun i => s.size - (intOf i).toNat)
 case atStart => exact ⟨0, Nat.zero_le _, rfl, H0⟩
 case round =>
  obtain ⟨k, hk, rfl, HK⟩ := hrel
  by_cases hlt : k < s.size
  ·
   cases hd : isDg s[k] with
   | true =>
    have HN : Hid (D = (k + 1) + ((s.data.toList.drop (k + 1)).takeWhile isDg).length) := kH (by have := HK.out; rw [tw_step _ s k hlt hd] at this; omega)
    clear HK
    go_wp2_with ((with_reducible refine (C1.out _ _).mono ?_); rw [hd]; rintro e w1 ⟨rfl, rfl⟩)
    go_round
    case rel => exact ⟨k + 1, by omega, by go_num, HN⟩
    case measure => simp [intOf]; omega
   | false =>
    have HE : Hid (D = k) := kH (by have := HK.out; rw [tw_stop _ s k (fun _ => hd)] at this; omega)
    clear HK
    go_wp2_with ((with_reducible refine (C1.out _ _).mono ?_); rw [hd]; rintro e w1 ⟨rfl, rfl⟩)
    go_ret
    rw [HE.out]; exact ⟨rfl, rfl⟩
  ·
   have HE : Hid (D = k) := kH (by have := HK.out; rw [tw_stop _ s k (fun h => absurd h hlt)] at this; omega)
   clear HK
   go_wp2
   go_ret
   rw [HE.out]; exact ⟨rfl, rfl⟩
set_option maxHeartbeats 1000000 in
theorem nms_any (s : ByteArray) (w : World) (hs : s.size ≤ 100000) : Calls Tryz.prog 32 #[.string s] w fun e w' => e = .returned (.int .i64 (nmL s.data.toList)) ∧ w' = w := by
 have C1 := kH fun c W => islt_any c W
 have C2 := kH fun c W => isdg_any c W
 have H0 : Hid (nmL s.data.toList = 0 + ((s.data.toList.drop 0).takeWhile isNm).length) := kH (by unfold nmL; simp)
 generalize hD : nmL s.data.toList = D at *
 clear hD
 go_enter Tryz.func32, Tryz.ntmps32
 go_wp2
 go_loop [3] (fun i => ∃ k : Nat, k ≤ s.size ∧ i = .int .i64 k ∧ Hid (D = k + ((s.data.toList.drop k).takeWhile isNm).length)) (fun i => s.size - (intOf i).toNat)
 case atStart => exact ⟨0, Nat.zero_le _, rfl, H0⟩
 case round =>
  obtain ⟨k, hk, rfl, HK⟩ := hrel
  by_cases hlt : k < s.size
  ·
   cases hl : isLt s[k] with
   | true =>
    have HN : Hid (D = (k + 1) + ((s.data.toList.drop (k + 1)).takeWhile isNm).length) := kH (by have := HK.out; rw [tw_step _ s k hlt (by unfold isNm; rw [hl]; rfl)] at this; omega)
    clear HK
    go_wp2_with ((with_reducible refine (C1.out _ _).mono ?_); rw [hl]; rintro e w1 ⟨rfl, rfl⟩)
    go_round
    case rel => exact ⟨k + 1, by omega, by go_num, HN⟩
    case measure => simp [intOf]; omega
   | false =>
    cases hd : isDg s[k] with
    | true =>
     have HN : Hid (D = (k + 1) + ((s.data.toList.drop (k + 1)).takeWhile isNm).length) := kH (by have := HK.out; rw [tw_step _ s k hlt (by unfold isNm; rw [hl, hd]; rfl)] at this; omega)
     clear HK
     go_wp2_with (first | ((with_reducible refine (C1.out _ _).mono ?_); rw [hl]; rintro e w1 ⟨rfl, rfl⟩) | ((with_reducible refine (C2.out _ _).mono ?_); rw [hd]; rintro e w1 ⟨rfl, rfl⟩))
     go_round
     case rel => exact ⟨k + 1, by omega, by go_num, HN⟩
     case measure => simp [intOf]; omega
    | false =>
     have HE : Hid (D = k) := kH (by have := HK.out; rw [tw_stop _ s k (fun _ => by unfold isNm; rw [hl, hd]; rfl)] at this; omega)
     clear HK
     go_wp2_with (first | ((with_reducible refine (C1.out _ _).mono ?_); rw [hl]; rintro e w1 ⟨rfl, rfl⟩) | ((with_reducible refine (C2.out _ _).mono ?_); rw [hd]; rintro e w1 ⟨rfl, rfl⟩))
     go_ret
     rw [HE.out]; exact ⟨rfl, rfl⟩
  ·
   have HE : Hid (D = k) := kH (by have := HK.out; rw [tw_stop _ s k (fun h => absurd h hlt)] at this; omega)
   clear HK
   go_wp2
   go_ret
   rw [HE.out]; exact ⟨rfl, rfl⟩

/-! A comment. -/
theorem cmt_index : ∀ l : List UInt8, Lib.indexByte l 10 = if (10 : UInt8) ∈ l then (cmtL l : Int) else -1
 | [] => rfl
 | b :: l => by
  unfold Lib.indexByte cmtL
  by_cases h : b = 10
  ·
   subst h; simp
  ·
   have hb : (b == 10) = false := by simpa using h
   have h10 : ¬ (10 : UInt8) = b := fun e => h e.symm
   have ih := cmt_index l
   have hbn : (b != 10) = true := by simpa using h
   rw [if_neg (show ¬ (b == 10) = true by rw [hb]; simp), List.takeWhile_cons, if_pos hbn]
   unfold cmtL at ih
   by_cases hl : (10 : UInt8) ∈ l
   ·
    rw [if_pos hl] at ih
    rw [if_pos (List.mem_cons_of_mem _ hl), ih]
    have : ¬ ((List.takeWhile (fun x => x != 10) l).length : Int) = -1 := by omega
    simp [this]
   ·
    rw [if_neg hl] at ih
    have hm : ¬ (10 : UInt8) ∈ b :: l := by simp [hl, h10]
    rw [ih, if_neg hm]
    simp
theorem cmt_all : ∀ l : List UInt8, (10 : UInt8) ∉ l → cmtL l = l.length
 | [], _ => rfl
 | b :: l, h => by
  have hb : (b != 10) = true := by
   rw [bne_iff_ne]; rintro rfl; exact h (List.mem_cons_self ..)
  have ih := cmt_all l (fun hl => h (List.mem_cons_of_mem _ hl))
  unfold cmtL at ih ⊢
  rw [List.takeWhile_cons, if_pos hb, List.length_cons, ih, List.length_cons]
theorem cmts_any (s : ByteArray) (w : World) (_hs : s.size ≤ 100000) : Calls Tryz.prog 45 #[.string s] w fun e w' => e = .returned (.int .i64 (cmtL s.data.toList)) ∧ w' = w := by
 have C := kH fun W => Tryz.strings_IndexByte s 10 W
 have e : Lib.indexByte s.data.toList (10 : Int).toNat.toUInt8 = if (10 : UInt8) ∈ s.data.toList then (cmtL s.data.toList : Int) else -1 := cmt_index _
 rw [e] at C
 by_cases h : (10 : UInt8) ∈ s.data.toList
 ·
  rw [if_pos h] at C
  have hc := cmt_le s.data.toList
  rw [ba_sz] at hc
  generalize cmtL s.data.toList = D at *
  clear e h
  go_enter Tryz.func45, Tryz.ntmps45
  go_wp2_with ((with_reducible refine (C.out _).mono ?_); rintro e w1 ⟨rfl, rfl⟩)
  go_ret
  exact ⟨rfl, rfl⟩
 ·
  rw [if_neg h] at C
  rw [cmt_all _ h, ba_sz]
  clear e h
  go_enter Tryz.func45, Tryz.ntmps45
  go_wp2_with ((with_reducible refine (C.out _).mono ?_); rintro e w1 ⟨rfl, rfl⟩)
  go_ret
  exact ⟨rfl, rfl⟩
theorem hp_one (r : List UInt8) (c : UInt8) : Lib.hasPrefix r [c] = decide (r.head? = some c) := by
 unfold Lib.hasPrefix
 cases r with
 | nil => simp [List.isPrefixOf]
 | cons a r => rw [Bool.eq_iff_iff]; simp [List.isPrefixOf]; exact eq_comm
theorem hp_is (s : ByteArray) (c : UInt8) (b : Bool) (h : decide (s.data.toList.head? = some c) = b) (w : World) :
  Calls Tryz.prog 44 #[.string s, .string ⟨#[c]⟩] w fun e w' => e = .returned (.bool b) ∧ w' = w := by
 refine (Tryz.strings_HasPrefix s ⟨#[c]⟩ w).mono ?_
 rintro e w' ⟨rfl, rfl⟩
 refine ⟨?_, rfl⟩
 rw [← h, ← hp_one]
end Go.Proofs.YtmbfdkiejneheaaGreatDoor

namespace Go.Proofs.YtmbfdkiejneheaaGreatDoor
open Go.RowKit

theorem head_drop (s : ByteArray) (k : Nat) : (s.data.toList.drop k).head? = if h : k < s.size then some s[k] else none := by
 by_cases h : k < s.size
 ·
  rw [drop_at s k h, dif_pos h]; rfl
 ·
  rw [drop_end s k (by omega), dif_neg h]; rfl
theorem nat_of {c : UInt8} {n : Nat} (hn : n < 256) (h : (c.toNat : Int) = (n : Int)) : c = UInt8.ofNat n := by
 apply UInt8.toNat_inj.1
 rw [UInt8.toNat_ofNat_of_lt' hn]; omega
theorem blank_one {c : UInt8} {t : List UInt8} (h : c = 32 ∨ c = 9 ∨ c = 13) : blankL (c :: t) = 1 + blankL t := by rw [blank_cons, if_pos h]
theorem blank_two {t : List UInt8} (h : t.head? = some 10) : blankL (92 :: t) = 2 + blankL (t.drop 1) := by
 rw [blank_cons, if_neg (by decide), if_pos rfl]
 cases t with
 | nil => cases h
 | cons d t => rw [List.head?_cons] at h; simp only [Option.some.inj h, if_true, List.drop_succ_cons, List.drop_zero]
theorem blank_two0 {t : List UInt8} (h : ¬ t.head? = some 10) : blankL (92 :: t) = 0 := by
 rw [blank_cons, if_neg (by decide), if_pos rfl]
 cases t with
 | nil => rfl
 | cons d t =>
  have : ¬ d = 10 := fun e => h (by rw [e]; rfl)
  simp only [if_neg this]
theorem cmt_end : ∀ l : List UInt8, blankL (l.drop (cmtL l)) = 0
 | [] => rfl
 | b :: l => by
  by_cases h : b = 10
  ·
   subst h
   rw [show cmtL (10 :: l) = 0 from rfl, List.drop_zero, blank_cons]
   simp
  ·
   have hb : (b != 10) = true := by simpa using h
   have e : cmtL (b :: l) = cmtL l + 1 := by unfold cmtL; rw [List.takeWhile_cons, if_pos hb]; simp
   rw [e, List.drop_succ_cons]
   exact cmt_end l
theorem blank_cmt {t : List UInt8} : blankL (35 :: t) = cmtL (35 :: t) + blankL ((35 :: t).drop (cmtL (35 :: t))) := by
 rw [cmt_end, blank_cons, if_neg (by decide), if_neg (by decide), if_pos rfl]
 have e : cmtL (35 :: t) = cmtL t + 1 := by unfold cmtL; rw [List.takeWhile_cons, if_pos (by decide)]; simp
 omega
theorem blank_no {c : UInt8} {t : List UInt8} (h1 : ¬ (c = 32 ∨ c = 9 ∨ c = 13)) (h2 : ¬ c = 92) (h3 : ¬ c = 35) : blankL (c :: t) = 0 := by
 rw [blank_cons, if_neg h1, if_neg h2, if_neg h3]
set_option maxHeartbeats 2000000 in
theorem blank_any (s : ByteArray) (w : World) (hs : s.size ≤ 100000) : Calls Tryz.prog 26 #[.string s] w fun e w' => e = .returned (.int .i64 (blankL s.data.toList)) ∧ w' = w := by
 have C1 := kH fun t W (h : t.size ≤ 100000) => cmts_any t W h
 have H0 : Hid (blankL s.data.toList = 0 + blankL (s.data.toList.drop 0)) := kH (by simp)
 generalize hD : blankL s.data.toList = D at *
 clear hD
 go_enter Tryz.func26, Tryz.ntmps26
 go_wp2
 go_loop [3] (fun i => ∃ k : Nat, k ≤ s.size ∧ i = .int .i64 k ∧ Hid (D = k + blankL (s.data.toList.drop k))) (fun i => s.size - (intOf i).toNat)
 case atStart => exact ⟨0, Nat.zero_le _, rfl, H0⟩
 case round =>
  obtain ⟨k, hk, rfl, HK⟩ := hrel
  by_cases hlt : k < s.size
  ·
   by_cases h1 : (s[k].toNat : Int) = 32 ∨ (s[k].toNat : Int) = 9 ∨ (s[k].toNat : Int) = 13
   ·
    have HN : Hid (D = (k + 1) + blankL (s.data.toList.drop (k + 1))) := kH (by
     have := HK.out
     have hc : s[k] = 32 ∨ s[k] = 9 ∨ s[k] = 13 := h1.imp (nat_of (by decide)) (Or.imp (nat_of (by decide)) (nat_of (by decide)))
     rw [drop_at s k hlt, blank_one hc] at this
     omega)
    clear HK
    rcases h1 with h1 | h1 | h1
    all_goals
     go_wp2
     go_round
     case rel => exact ⟨k + 1, by omega, by go_num, HN⟩
     case measure => simp [intOf]; omega
   ·
    have n1 : ¬ (s[k].toNat : Int) = 32 := fun h => h1 (.inl h)
    have n2 : ¬ (s[k].toNat : Int) = 9 := fun h => h1 (.inr (.inl h))
    have n3 : ¬ (s[k].toNat : Int) = 13 := fun h => h1 (.inr (.inr h))
    clear h1
    have c1 : ¬ (s[k] = 32 ∨ s[k] = 9 ∨ s[k] = 13) := by rintro (h | h | h) <;> rw [h] at n1 n2 n3 <;> simp at n1 n2 n3
    by_cases h2 : (s[k].toNat : Int) = 92
    ·
     have c2 : s[k] = 92 := nat_of (by decide) h2
     have hK := HK.out
     rw [drop_at s k hlt, c2] at hK
     by_cases h3 : (s.data.toList.drop (k + 1)).head? = some 10
     ·
      have hk2 : k + 2 ≤ s.size := by
       rw [head_drop] at h3; split at h3
       ·
        omega
       ·
        cases h3
      have HN : Hid (D = (k + 2) + blankL (s.data.toList.drop (k + 2))) := kH (by
       rw [blank_two h3, List.drop_drop] at hK
       rw [show k + 2 = k + 1 + 1 from rfl]; omega)
      have HP : Hid (decide ((s.extract (k + 1) s.size).data.toList.head? = some 10) = true) := kH (by rw [extk]; exact decide_eq_true h3)
      clear HK hK h3 c1 c2
      go_wp2_with (refine (hp_is _ 10 true HP.out _).mono ?_; rintro e w1 ⟨rfl, rfl⟩)
      go_round
      case rel => exact ⟨k + 2, by omega, by go_num, HN⟩
      case measure => simp [intOf]; omega
     ·
      have HE : Hid (D = k) := kH (by rw [blank_two0 h3] at hK; omega)
      have HP : Hid (decide ((s.extract (k + 1) s.size).data.toList.head? = some 10) = false) := kH (by rw [extk]; exact decide_eq_false h3)
      clear HK hK h3 c1 c2
      go_wp2_with (refine (hp_is _ 10 false HP.out _).mono ?_; rintro e w1 ⟨rfl, rfl⟩)
      go_ret
      rw [HE.out]; exact ⟨rfl, rfl⟩
    ·
     have c2 : ¬ s[k] = 92 := fun h => h2 (by rw [h]; rfl)
     by_cases h3 : (s[k].toNat : Int) = 35
     ·
      have c3 : s[k] = 35 := nat_of (by decide) h3
      have hz : (s.extract k s.size).data.toList = s.data.toList.drop k := extk s k
      have hcl := cmt_le (s.data.toList.drop k)
      rw [List.length_drop, ba_sz] at hcl
      have C2 : Hid (∀ W, Calls Tryz.prog 45 #[.string (s.extract k s.size)] W fun e w' => e = .returned (.int .i64 (cmtL (s.data.toList.drop k))) ∧ w' = W) := kH fun W => by
       have := C1.out (s.extract k s.size) W (by simp; omega)
       rw [hz] at this; exact this
      have h0 : 0 < cmtL (s.data.toList.drop k) := by
       rw [drop_at s k hlt, c3]; unfold cmtL; rw [List.takeWhile_cons, if_pos (by decide)]; simp
      have HN : Hid (D = (k + cmtL (s.data.toList.drop k)) + blankL (s.data.toList.drop (k + cmtL (s.data.toList.drop k)))) := kH (by
       have := HK.out
       have e : blankL (s.data.toList.drop k) = cmtL (s.data.toList.drop k) + blankL ((s.data.toList.drop k).drop (cmtL (s.data.toList.drop k))) := by
        rw [drop_at s k hlt, c3]; exact blank_cmt
       rw [List.drop_drop] at e
       omega)
      generalize cmtL (s.data.toList.drop k) = m at *
      clear HK hz c1 c2
      go_wp2_with ((with_reducible refine (C2.out _).mono ?_); rintro e w1 ⟨rfl, rfl⟩)
      go_round
      case rel => exact ⟨k + m, by omega, by go_num, HN⟩
      case measure => simp [intOf]; omega
     ·
      have c3 : ¬ s[k] = 35 := fun h => h3 (by rw [h]; rfl)
      have HE : Hid (D = k) := kH (by have := HK.out; rw [drop_at s k hlt, blank_no c1 c2 c3] at this; omega)
      clear HK c1 c2 c3
      have b1 : ((s[k].toNat : Int) == 32) = false := by simpa using n1
      have b2 : ((s[k].toNat : Int) == 9) = false := by simpa using n2
      have b3 : ((s[k].toNat : Int) == 13) = false := by simpa using n3
      have b4 : ((s[k].toNat : Int) == 92) = false := by simpa using h2
      have b5 : ((s[k].toNat : Int) == 35) = false := by simpa using h3
      go_wp2
      go_ret
      rw [HE.out]; exact ⟨rfl, rfl⟩
  ·
   have HE : Hid (D = k) := kH (by have := HK.out; rw [drop_end s k (by omega)] at this; exact this)
   clear HK
   go_wp2
   go_ret
   rw [HE.out]; exact ⟨rfl, rfl⟩
end Go.Proofs.YtmbfdkiejneheaaGreatDoor
