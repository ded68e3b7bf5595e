/-
 CONTRACTS of layer 13's cond.
-/
import Derived.Test.YtmbfdkiejneheaaGreatDoorPaWC
namespace Go.Proofs.YtmbfdkiejneheaaGreatDoor
open Go.RowKit

theorem inL_eq (k : Nat) (l : List Tok) (t : PT) : inL (k + 1) l t = if fx l = [105, 110] then bnd (nameP (nx l)) fun name l2 => inL k l2 (named [105, 110] name [t]) else .ok (t, l) := by
 conv => lhs; unfold inL
 split
 ·
  unfold nameP
  split
  ·
   rfl
  ·
   rfl
 ·
  rfl
/-- A node of one in new memory. -/
theorem TreeP.sole {w : World} {B : Nat → Prop} {t : PT} {n : An} (ht : TreeP w B t n) (hB : B w.heap.size) (op tx : List UInt8) (pl : Nat) :
  TreeP (w.alloc (nB n)) B (.mk op tx pl [t]) ⟨bs op, bs tx, pl, some ⟨w.heap.size, 0, none⟩, 1, 1⟩ := by
 have hb : Below w.heap.size w (w.alloc (nB n)) := (Below.refl _ _).alloc (Nat.le_refl _) _
 refine TreeP.mk (ns := [n]) rfl rfl rfl ?_ (fun g hg => ?_) (.one (ht.below hb))
 ·
  exact World.ownsRow_lit (base := 0) (e := 25) (size := 4) w #[.string n.op, .string n.tx, .int .i64 n.pl, .slice n.kp n.kn n.kc] 1 (Nat.zero_le _) (by decide) rfl
 ·
  simp [An.kids, Value.ownBlock] at hg
  subst hg; exact hB
set_option maxHeartbeats 8000000 in
set_option maxRecDepth 100000 in
theorem pin_any {reOk : List UInt8 → Bool} {K : Ps} {m : Nat} (HRe : ReOk reOk) (IE : OkE reOk K m 59 fun R pr => R.E pr) (IP : OkN reOk K m 124 fun R _ => primP reOk R) (IU : OkN reOk K m 119 fun R _ => unaryP reOk R) (dp : Nat) (pr : Bool) (l : List Tok) (er : ErO) (w : World) (hd : DpOk dp l) (hl : l.length ≤ m) (h : Pst w K l dp pr er) :
  Calls Tryz.prog 100 #[.pointer (some ⟨K.b, 0, none⟩)] w (NdPost K w w.heap.size l (inP reOk (rcP reOk (50 - dp)) pr l) dp pr er) := by
 have CE := kH fun W hW => pmatch_any HRe IE IP IU dp pr l er W hd hl hW
 have CT := kH fun l1 er1 => ptake_any K l1 dp pr er1 [105, 110]
 have CN := kH fun l1 er1 W hW => pwname_any K l1 dp pr er1 W hW
 have CM := kH fun o t p n c W => pnamed_any o t p n c W
 have HK : Hid (K.b < w.heap.size ∧ K.g < w.heap.size) := kH ⟨h.lt, h.glt⟩
 have HNZ : Hid (w.heap.size ≠ K.b) := kH (by have := HK.out; omega)
 have HN := kH (BlkA.new0 w)
 have H0 := kH ((Mv.refl h).alloc zN)
 have HSZ : Hid (w.heap.size + 1 = (w.alloc zN).heap.size) := kH (by simp)
 clear HRe IE IP IU hd hl h
 go_enter Tryz.func100, Tryz.ntmps100
 go_wp2_with fail
 generalize w.alloc zN = w0 at *
 have HLT := kH HN.out.lt
 refine (CE.out _ H0.out.st).mono ?_
 rintro e w1 ⟨t1, n1, l1, er1, rfl, r1, m1, tr1⟩
 have HN := kH (HN.out.onl m1.2 HNZ.out)
 have HR1 := kH r1
 have HT1 := kH (tr1.low (B1 := w.heap.size + 1) (by have := HLT.out; omega))
 have HS1 := kH m1.2.size
 have H1 := kH (H0.out.trans m1)
 clear m1 r1 tr1
 unfold An.val
 have HTN : Hid (TreeP w1 (fun i => w.heap.size + 1 ≤ i ∧ i ≠ w1.heap.size) t1 n1) := kH (HT1.out.kept' (fun _ _ _ => rfl) (fun k hk hl => ⟨hk, by omega⟩))
 have HBHV : Hid (w1.heap.size ≠ K.b) := kH (by have := H1.out.st.lt; omega)
 have HN := kH (HN.out.alloc (nB n1))
 have HTN := kH (HTN.out.below ((Below.refl _ _).alloc (Nat.le_refl _) (nB n1)))
 have HV := kH (BlkA.new w1 n1)
 have H1 := kH (H1.out.alloc (nB n1))
 go_wp2_with fail
 have HI : Hid (LpSt K w w1.heap.size (fun k l1 t => inL k l1 t) (inP reOk (rcP reOk (50 - dp)) pr l) l dp pr er l.length (w1.alloc (nB n1))) := kH ⟨t1, n1, l1, er1, l1.length + 1, HR1.out.suf, HR1.out.suf.length_le, by omega, H1.out, HN.out, HV.out, HTN.out, fun a l2 er2 k => HR1.out.bnd k⟩
 have HGN : Hid (w.heap.size < w1.heap.size) := kH (by have := HS1.out; have := HLT.out; omega)
 clear H1 HR1 HN HV HTN HT1 CE H0 HLT HBHV HS1
 generalize w1.alloc (nB n1) = wa at *
 generalize w1.heap.size = gN at *
 have HGK : Hid (gN ≠ K.b ∧ gN ≠ K.g) := kH (by have := HK.out; have := HGN.out; omega)
 go_loopg [] l.length (fun gk wr => Hid (LpSt K w gN (fun k l1 t => inL k l1 t) (inP reOk (rcP reOk (50 - dp)) pr l) l dp pr er gk wr))
 case atStart => exact HI
 case round =>
  clear HI
  obtain ⟨t, n, l1, er1, k, hsf, hgk, hk, hmv, hz, hn, ht, hres⟩ := hrel.out.ex
  have HN := kH hz
  have HV := kH hn
  have HTN := kH ht
  have HBHV : Hid (gN ≠ K.b) := kH HGK.out.1
  have H1 := kH hmv
  have CT := kH (CT.out l1 er1)
  by_cases hc : fx l1 = [105, 110]
  ·
   have hk0 := fx_kind hc (by simp)
   have hnx := hmv.st.tll.nx
   have hlt := hnx.2.2.2 hk0
   have HRS : Hid (∀ name l2 er2, Res (nameP (nx l1)) (nx l1) er1 name l2 er2 → l2 <:+ l ∧ l2.length ≤ gk - 1 ∧ gk - 1 < gk ∧ l2.length < k - 1 ∧ ∀ a l3 er3, Res (inL (k - 1) l2 (named [105, 110] name [t])) l2 er2 a l3 er3 → Res (inP reOk (rcP reOk (50 - dp)) pr l) l er a l3 er3) := kH (by
    intro u l2 er2 hr
    have h3 := hr.suf.length_le
    refine ⟨hr.suf.trans (hnx.1.trans hsf), by omega, by omega, by omega, fun a l3 er3 h4 => hres a l3 er3 ?_⟩
    obtain ⟨k, rfl⟩ : ∃ j, k = j + 1 := ⟨k - 1, by omega⟩
    rw [inL_eq, if_pos hc]
    exact (hr.bnd h4).pre hnx.1)
   rw [if_pos hc, decide_eq_true hc] at CT
   clear hc hsf hgk hk hmv hz hn ht hres hrel hk0 hnx hlt
   go_wp2_with fail
   refine (CT.out _ H1.out.st).mono ?_
   rintro e w2 ⟨rfl, m2⟩
   have HN := kH (HN.out.onl m2.2 HNZ.out)
   have HV := kH (HV.out.onl m2.2 HBHV.out)
   have HTN := kH (HTN.out.kept' (fun k hk hl => m2.2.block k hl (by have := HK.out; have := hk.1; omega)) (fun _ h _ => h))
   have H2 := kH (H1.out.trans m2)
   clear m2
   go_wp2_with fail
   have HN := kH (HN.out.drew)
   have HV := kH (HV.out.drew)
   have HTN := kH (HTN.out.drew)
   have H2 := kH H2.out.drew
   refine wp_region_L (st := [5]) (S := fun Z => BlkA Z gN n) (by kernel_rfl) (HV.out) (fun hHeld => ?_)
   generalize w2.drew = wd2 at *
   refine tkL 0 (v := ?_) rfl ?_ ?_
   rotate_left
   ·
    (intro w hSw; obtain ⟨d0, d1, d2, d3, dk0, dk1, dk2, dk3⟩ := BlkA.cells hSw; go_simp; try with_reducible rfl)
   try simp only [nrm]
   refine tkL 2 (v := ?_) rfl ?_ ?_
   rotate_left
   ·
    (intro w hSw; obtain ⟨d0, d1, d2, d3, dk0, dk1, dk2, dk3⟩ := BlkA.cells hSw; go_simp; try with_reducible rfl)
   try simp only [nrm]
   refine wpAnyL_ready (rs := [1, 3]) (by kernel_rfl) (by simp) ?_
   refine AllReadyL.cons (o := _) rfl (fun K2 hK => ?_) (AllReadyL.cons (o := _) rfl (fun K2 hK => ?_) AllReadyL.nil)
   ·
    go_simp
    have HLT := kH HN.out.lt
    refine (CN.out _ _ _ H2.out.st).mono ?_
    rintro e w3 ⟨nm, l5, er5, rfl, r3, m3⟩
    have HN := kH (HN.out.onl m3.2 HNZ.out)
    have HV := kH (HV.out.onl m3.2 HBHV.out)
    have HTN := kH (HTN.out.kept' (fun k hk hl => m3.2.block k hl (by have := HK.out; have := hk.1; omega)) (fun _ h _ => h))
    have HR3 := kH r3
    have HRR := kH (HRS.out _ _ _ r3)
    have H3 := kH (H2.out.trans m3)
    clear m3 r3
    unfold tokV
    refine hK.out _ _ (HV.out) (fun hHeld => ?_)
    clear hK K2
    try simp only [nrm]
    refine rdL 3 rfl (fun K2 hK => ?_)
    go_simp
    have HTW := kH (fun tx pl => TreeP.sole (w := w3) HTN.out (by have := HV.out.lt; have := HN.out.lt; omega) [105, 110] tx pl)
    have HN := kH (HN.out.alloc (nB n))
    have HV := kH (HV.out.alloc (nB n))
    have H3 := kH (H3.out.alloc (nB n))
    refine hK.out _ _ (HV.out) (fun hHeld => ?_)
    clear hK K2
    try simp only [nrm]
    refine rdL 4 rfl (fun K2 hK => ?_)
    go_simp
    refine (CM.out _ nm _ _ _ _).mono ?_
    rintro e w4 ⟨rfl, hb4⟩
    have HN := kH (HN.out.below hb4)
    have HV := kH (HV.out.below hb4)
    have HTW := kH (fun tx pl => (HTW.out tx pl).below hb4)
    have H4 := kH (H3.out.below hb4)
    clear hb4
    unfold An.val
    refine hK.out _ _ (HV.out) (fun hHeld => ?_)
    clear hK K2
    try simp only
    refine wpAnyL_ready (rs := [5]) (by kernel_rfl) (by simp) ?_
    refine AllReadyL.store (o := _) rfl (by decide) (by decide) (fun K2 hK => ?_) AllReadyL.nil
    obtain ⟨z0, z1, z2, z3, zk0, zk1, zk2, zk3⟩ := HV.out.cells
    go_simp
    refine hK.out _ _ ?_
    clear hK K2
    try simp only [nrm]
    refine wpAnyL_done (by kernel_rfl) ?_ _
    go_wp2_with fail
    have HTX := kH (HTW.out nm.t nm.a)
    go_roundg (gk - 1)
    case measure => exact HRR.out.2.2.1
    case rel =>
     have hput : ∀ k, k ≠ gN → (putA w4 gN ⟨bs [105, 110], bs nm.t, nm.a, some ⟨w3.heap.size, 0, none⟩, 1, 1⟩).heap[k]? = w4.heap[k]? := fun k hk => putA_block hk _
     show Hid (LpSt K w gN (fun k l1 t => inL k l1 t) (inP reOk (rcP reOk (50 - dp)) pr l) l dp pr er (gk - 1) (putA w4 gN ⟨bs [105, 110], bs nm.t, nm.a, some ⟨w3.heap.size, 0, none⟩, 1, 1⟩))
     refine kH ⟨named [105, 110] nm [t], ⟨bs [105, 110], bs nm.t, nm.a, some ⟨w3.heap.size, 0, none⟩, 1, 1⟩, l5, er5, k - 1, HRR.out.1, HRR.out.2.1, HRR.out.2.2.2.1, Mv.putA H4.out (Nat.le_of_lt HGN.out) HK.out _, (hput _ (by have := HGN.out; omega)).trans HN.out, BlkA.putA HV.out _, HTX.out.kept' (fun k hk _ => hput k hk.2) (fun _ h _ => h), HRR.out.2.2.2.2⟩
   ·
    go_simp
    have HTW := kH (fun tx pl => TreeP.sole (w := wd2) HTN.out (by have := HV.out.lt; have := HN.out.lt; omega) [105, 110] tx pl)
    have HN := kH (HN.out.alloc (nB n))
    have HV := kH (HV.out.alloc (nB n))
    have H2 := kH (H2.out.alloc (nB n))
    refine hK.out _ _ (HV.out) (fun hHeld => ?_)
    clear hK K2
    try simp only [nrm]
    refine rdL 1 rfl (fun K2 hK => ?_)
    go_simp
    have HLT := kH HN.out.lt
    refine (CN.out _ _ _ H2.out.st).mono ?_
    rintro e w3 ⟨nm, l5, er5, rfl, r3, m3⟩
    have HN := kH (HN.out.onl m3.2 HNZ.out)
    have HV := kH (HV.out.onl m3.2 HBHV.out)
    have HTW := kH (fun tx pl => (HTW.out tx pl).kept' (fun k hk hl => m3.2.block k hl (by have := HK.out; have := hk.1; omega)) (fun _ h _ => h))
    have HR3 := kH r3
    have HRR := kH (HRS.out _ _ _ r3)
    have H3 := kH (H2.out.trans m3)
    clear m3 r3
    unfold tokV
    refine hK.out _ _ (HV.out) (fun hHeld => ?_)
    clear hK K2
    try simp only [nrm]
    refine rdL 4 rfl (fun K2 hK => ?_)
    go_simp
    refine (CM.out _ nm _ _ _ _).mono ?_
    rintro e w4 ⟨rfl, hb4⟩
    have HN := kH (HN.out.below hb4)
    have HV := kH (HV.out.below hb4)
    have HTW := kH (fun tx pl => (HTW.out tx pl).below hb4)
    have H4 := kH (H3.out.below hb4)
    clear hb4
    unfold An.val
    refine hK.out _ _ (HV.out) (fun hHeld => ?_)
    clear hK K2
    try simp only
    refine wpAnyL_ready (rs := [5]) (by kernel_rfl) (by simp) ?_
    refine AllReadyL.store (o := _) rfl (by decide) (by decide) (fun K2 hK => ?_) AllReadyL.nil
    obtain ⟨z0, z1, z2, z3, zk0, zk1, zk2, zk3⟩ := HV.out.cells
    go_simp
    refine hK.out _ _ ?_
    clear hK K2
    try simp only [nrm]
    refine wpAnyL_done (by kernel_rfl) ?_ _
    go_wp2_with fail
    have HTX := kH (HTW.out nm.t nm.a)
    go_roundg (gk - 1)
    case measure => exact HRR.out.2.2.1
    case rel =>
     have hput : ∀ k, k ≠ gN → (putA w4 gN ⟨bs [105, 110], bs nm.t, nm.a, some ⟨wd2.heap.size, 0, none⟩, 1, 1⟩).heap[k]? = w4.heap[k]? := fun k hk => putA_block hk _
     show Hid (LpSt K w gN (fun k l1 t => inL k l1 t) (inP reOk (rcP reOk (50 - dp)) pr l) l dp pr er (gk - 1) (putA w4 gN ⟨bs [105, 110], bs nm.t, nm.a, some ⟨wd2.heap.size, 0, none⟩, 1, 1⟩))
     refine kH ⟨named [105, 110] nm [t], ⟨bs [105, 110], bs nm.t, nm.a, some ⟨wd2.heap.size, 0, none⟩, 1, 1⟩, l5, er5, k - 1, HRR.out.1, HRR.out.2.1, HRR.out.2.2.2.1, Mv.putA H4.out (Nat.le_of_lt HGN.out) HK.out _, (hput _ (by have := HGN.out; omega)).trans HN.out, BlkA.putA HV.out _, HTX.out.kept' (fun k hk _ => hput k hk.2) (fun _ h _ => h), HRR.out.2.2.2.2⟩
  ·
   have HX : Hid (Res (inP reOk (rcP reOk (50 - dp)) pr l) l er t l1 er1) := kH (hres _ _ _ (by
    obtain ⟨k, rfl⟩ : ∃ j, k = j + 1 := ⟨k - 1, by omega⟩
    rw [inL_eq, if_neg hc]
    exact Res.ret hmv.st.ne))
   rw [if_neg hc, decide_eq_false hc] at CT
   clear hc hsf hgk hk hmv hz hn ht hres hrel
   go_wp2_with fail
   refine (CT.out _ H1.out.st).mono ?_
   rintro e w2 ⟨rfl, m2⟩
   have HN := kH (HN.out.onl m2.2 HNZ.out)
   have HV := kH (HV.out.onl m2.2 HBHV.out)
   have HTN := kH (HTN.out.kept' (fun k hk hl => m2.2.block k hl (by have := HK.out; have := hk.1; omega)) (fun _ h _ => h))
   have H2 := kH (H1.out.trans m2)
   clear m2
   obtain ⟨v0, v1, v2, v3, vk0, vk1, vk2, vk3⟩ := HV.out.cells
   obtain ⟨z0, z1, z2, z3, zk0, zk1, zk2, zk3⟩ := HN.out.cells
   go_wp2_with fail
   exact bodyPost_ret (v := An.val n) (by simp [results, Tryz.results100, go_sem, An.val, z0, z1, z2, z3]) rfl (NdPost.put (n := n) (HX.out) H2.out (HTN.out.kept' (fun _ _ _ => rfl) (fun _ hk _ => hk.1)) HK.out)
theorem cf_pand_any : ∀ xs w, (callFunc 100 xs).run Tryz.prog w = .ok (.enter 100 xs) w := fun _ _ => by kernel_rfl
set_option maxHeartbeats 8000000 in
set_option maxRecDepth 100000 in
theorem pand_any {reOk : List UInt8 → Bool} {K : Ps} {m : Nat} (HRe : ReOk reOk) (IE : OkE reOk K m 59 fun R pr => R.E pr) (IP : OkN reOk K m 124 fun R _ => primP reOk R) (IU : OkN reOk K m 119 fun R _ => unaryP reOk R) (dp : Nat) (pr : Bool) (l : List Tok) (er : ErO) (w : World) (hd : DpOk dp l) (hl : l.length ≤ m) (h : Pst w K l dp pr er) :
  Calls Tryz.prog 89 #[.pointer (some ⟨K.b, 0, none⟩)] w (NdPost K w w.heap.size l (andP reOk (rcP reOk (50 - dp)) pr l) dp pr er) := by
 have CC := kH fun gs cs W hW hg hgs => pchain_any (K := K) (f := 100) (G := inP reOk (rcP reOk (50 - dp)) pr) (dp := dp) (pr := pr) (l := l) cf_pand_any (fun l1 er1 W1 hs h1 => pin_any HRe IE IP IU dp pr l1 er1 W1 (hd.suf hs h1.ne) (Nat.le_trans hs.length_le hl) h1) [[38, 38]] (by decide) (by decide) gs cs er W hW hg hgs
 have HK : Hid (K.b < w.heap.size ∧ K.g < w.heap.size) := kH ⟨h.lt, h.glt⟩
 have HNZ : Hid (w.heap.size ≠ K.b) := kH (by have := HK.out; omega)
 have HN := kH (BlkA.new0 w)
 have H0 := kH ((Mv.refl h).alloc zN)
 have HSZ : Hid (w.heap.size + 1 = (w.alloc zN).heap.size) := kH (by simp)
 clear HRe IE IP IU hd hl h
 go_enter Tryz.func89, Tryz.ntmps89
 go_wp2_with fail
 generalize w.alloc zN = w0 at *
 have HSG : Hid (SgAt (w0.alloc (.cells #[.string ⟨#[38, 38]⟩] 9)) (w.heap.size + 1) [[38, 38]]) := kH (HSZ.out ▸ ⟨by simp, fun j hj => by
  have hj2 : j < 1 := hj
  rcases j with _ | j
  ·
   simp [go_sem, bs]
  ·
   omega⟩)
 simp only [List.length_cons, List.length_nil, Nat.reduceAdd] at CC
 have HGK : Hid (w.heap.size + 1 ≠ K.b) := kH (by have := HK.out; omega)
 have HN := kH (HN.out.alloc (.cells #[.string ⟨#[38, 38]⟩] 9))
 have H0 := kH (H0.out.alloc (.cells #[.string ⟨#[38, 38]⟩] 9))
 have HLT := kH HN.out.lt
 refine (CC.out (w.heap.size + 1) 1 _ H0.out.st HSG.out HGK.out).mono ?_
 rintro e w1 ⟨t2, n2, l2, er2, rfl, r1, m1, tr2⟩
 have HN := kH (HN.out.onl m1.2 HNZ.out)
 have HR1 := kH r1
 have HT2 := kH (tr2.low (B1 := w.heap.size + 1) (by have := HLT.out; omega))
 have H1 := kH (H0.out.trans m1)
 clear m1 r1 tr2
 unfold An.val
 obtain ⟨z0, z1, z2, z3, zk0, zk1, zk2, zk3⟩ := HN.out.cells
 go_wp2_with fail
 exact bodyPost_ret (v := An.val n2) (by simp [results, Tryz.results89, go_sem, An.val, z0, z1, z2, z3]) rfl (NdPost.put (n := n2) (HR1.out) H1.out (HT2.out) HK.out)
theorem cf_por_any : ∀ xs w, (callFunc 89 xs).run Tryz.prog w = .ok (.enter 89 xs) w := fun _ _ => by kernel_rfl
set_option maxHeartbeats 8000000 in
set_option maxRecDepth 100000 in
theorem por_any {reOk : List UInt8 → Bool} {K : Ps} {m : Nat} (HRe : ReOk reOk) (IE : OkE reOk K m 59 fun R pr => R.E pr) (IP : OkN reOk K m 124 fun R _ => primP reOk R) (IU : OkN reOk K m 119 fun R _ => unaryP reOk R) (dp : Nat) (pr : Bool) (l : List Tok) (er : ErO) (w : World) (hd : DpOk dp l) (hl : l.length ≤ m) (h : Pst w K l dp pr er) :
  Calls Tryz.prog 75 #[.pointer (some ⟨K.b, 0, none⟩)] w (NdPost K w w.heap.size l (orP reOk (rcP reOk (50 - dp)) pr l) dp pr er) := by
 have CC := kH fun gs cs W hW hg hgs => pchain_any (K := K) (f := 89) (G := andP reOk (rcP reOk (50 - dp)) pr) (dp := dp) (pr := pr) (l := l) cf_por_any (fun l1 er1 W1 hs h1 => pand_any HRe IE IP IU dp pr l1 er1 W1 (hd.suf hs h1.ne) (Nat.le_trans hs.length_le hl) h1) [[124, 124]] (by decide) (by decide) gs cs er W hW hg hgs
 have HK : Hid (K.b < w.heap.size ∧ K.g < w.heap.size) := kH ⟨h.lt, h.glt⟩
 have HNZ : Hid (w.heap.size ≠ K.b) := kH (by have := HK.out; omega)
 have HN := kH (BlkA.new0 w)
 have H0 := kH ((Mv.refl h).alloc zN)
 have HSZ : Hid (w.heap.size + 1 = (w.alloc zN).heap.size) := kH (by simp)
 clear HRe IE IP IU hd hl h
 go_enter Tryz.func75, Tryz.ntmps75
 go_wp2_with fail
 generalize w.alloc zN = w0 at *
 have HSG : Hid (SgAt (w0.alloc (.cells #[.string ⟨#[124, 124]⟩] 9)) (w.heap.size + 1) [[124, 124]]) := kH (HSZ.out ▸ ⟨by simp, fun j hj => by
  have hj2 : j < 1 := hj
  rcases j with _ | j
  ·
   simp [go_sem, bs]
  ·
   omega⟩)
 simp only [List.length_cons, List.length_nil, Nat.reduceAdd] at CC
 have HGK : Hid (w.heap.size + 1 ≠ K.b) := kH (by have := HK.out; omega)
 have HN := kH (HN.out.alloc (.cells #[.string ⟨#[124, 124]⟩] 9))
 have H0 := kH (H0.out.alloc (.cells #[.string ⟨#[124, 124]⟩] 9))
 have HLT := kH HN.out.lt
 refine (CC.out (w.heap.size + 1) 1 _ H0.out.st HSG.out HGK.out).mono ?_
 rintro e w1 ⟨t2, n2, l2, er2, rfl, r1, m1, tr2⟩
 have HN := kH (HN.out.onl m1.2 HNZ.out)
 have HR1 := kH r1
 have HT2 := kH (tr2.low (B1 := w.heap.size + 1) (by have := HLT.out; omega))
 have H1 := kH (H0.out.trans m1)
 clear m1 r1 tr2
 unfold An.val
 obtain ⟨z0, z1, z2, z3, zk0, zk1, zk2, zk3⟩ := HN.out.cells
 go_wp2_with fail
 exact bodyPost_ret (v := An.val n2) (by simp [results, Tryz.results75, go_sem, An.val, z0, z1, z2, z3]) rfl (NdPost.put (n := n2) (HR1.out) H1.out (HT2.out) HK.out)
end Go.Proofs.YtmbfdkiejneheaaGreatDoor

namespace Go.Proofs.YtmbfdkiejneheaaGreatDoor
open Go.RowKit

def condP (R : Rc) (pr : Bool) (a : PT) (l : List Tok) : TR PT :=
 bnd (R.E pr (nlsP l)) fun yes l2 => bnd (wantP [58] (nlsP l2)) fun _ l3 => bnd (R.E pr (nlsP l3)) fun no l4 => .ok (nd [99, 111, 110, 100] [a, yes, no], l4)
theorem TreeP.three {w : World} {B : Nat → Prop} {t u v : PT} {n m o : An} (ht : TreeP w B t n) (hu : TreeP w B u m) (hv : TreeP w B v o) (hB : B w.heap.size) (op : List UInt8) :
  TreeP (w.alloc (.cells #[.string n.op, .string n.tx, .int .i64 n.pl, .slice n.kp n.kn n.kc, .string m.op, .string m.tx, .int .i64 m.pl, .slice m.kp m.kn m.kc, .string o.op, .string o.tx, .int .i64 o.pl, .slice o.kp o.kn o.kc] 25)) B (nd op [t, u, v]) ⟨bs op, ⟨#[]⟩, 0, some ⟨w.heap.size, 0, none⟩, 3, 3⟩ := by
 have hb : Below w.heap.size w (w.alloc (.cells #[.string n.op, .string n.tx, .int .i64 n.pl, .slice n.kp n.kn n.kc, .string m.op, .string m.tx, .int .i64 m.pl, .slice m.kp m.kn m.kc, .string o.op, .string o.tx, .int .i64 o.pl, .slice o.kp o.kn o.kc] 25)) := (Below.refl _ _).alloc (Nat.le_refl _) _
 refine TreeP.mk (ns := [n, m, o]) rfl rfl rfl ?_ (fun g hg => ?_) (.cons (ht.below hb) (.cons (hu.below hb) (.one (hv.below hb))))
 ·
  exact World.ownsRow_lit (base := 0) (e := 25) (size := 4) w #[.string n.op, .string n.tx, .int .i64 n.pl, .slice n.kp n.kn n.kc, .string m.op, .string m.tx, .int .i64 m.pl, .slice m.kp m.kn m.kc, .string o.op, .string o.tx, .int .i64 o.pl, .slice o.kp o.kn o.kc] 3 (Nat.zero_le _) (by decide) rfl
 ·
  simp [An.kids, Value.ownBlock] at hg
  subst hg; exact hB
/-- As NdPost.put, the result's block anywhere. -/
theorem NdPost.putG {K : Ps} {w w' : World} {B0 g : Nat} {l l2 : List Tok} {X : TR PT} {dp : Nat} {pr : Bool} {er er2 : ErO} {t : PT} {n : An} (hr : Res X l er t l2 er2) (hm : Mv K w l2 dp pr er2 w') (ht : TreeP w' (fun k => B0 ≤ k ∧ k ≠ g) t n) (hg : w.heap.size ≤ g) (hK : K.b < w.heap.size ∧ K.g < w.heap.size) :
  NdPost K w B0 l X dp pr er (.returned (An.val n)) (putA w' g n) :=
 ⟨t, n, l2, er2, rfl, hr, hm.putA hg hK n, (ht.putA (fun _ hk _ => hk.2) n).kept' (fun _ _ _ => rfl) (fun _ hk _ => hk.1)⟩
set_option maxHeartbeats 8000000 in
set_option maxRecDepth 100000 in
theorem pcond_any {reOk : List UInt8 → Bool} {K : Ps} {m : Nat} (IE : OkE reOk K m 59 fun R pr => R.E pr) (dp : Nat) (pr : Bool) (l : List Tok) (er : ErO) (w : World) (hd : dp ≤ 50) (hl : l.length < m) (h : Pst w K l dp pr er) (a : PT) (na : An) (B0 : Nat) (hB : K.b < B0 ∧ B0 ≤ w.heap.size) (ha : TreeP w (fun k => B0 ≤ k) a na) :
  Calls Tryz.prog 76 #[.pointer (some ⟨K.b, 0, none⟩), An.val na] w (NdPost K w B0 l (condP (rcP reOk (50 - dp)) pr a l) dp pr er) := by
 have CE := kH fun l1 er1 W (hs : l1 <:+ l) hW => IE dp pr l1 er1 W hd (Nat.lt_of_le_of_lt hs.length_le hl) hW
 have CL := kH fun l1 er1 => pnls_any K l1 dp pr er1
 have CW := kH fun l1 er1 W hW => pwant_any K l1 dp pr er1 [58] W hW
 have CM := kH fun o p n c W => pnode_any o p n c W
 have HK : Hid (K.b < w.heap.size ∧ K.g < w.heap.size) := kH ⟨h.lt, h.glt⟩
 have HB0 := kH hB
 have HNZ : Hid (w.heap.size ≠ K.b) := kH (by have := HK.out; omega)
 have HNZ1 : Hid (w.heap.size + 1 ≠ K.b) := kH (by have := HK.out; omega)
 have hsz : (w.alloc (nB na)).heap.size = w.heap.size + 1 := by simp
 have HV := kH ((BlkA.new w na).alloc zN)
 have HN := kH (BlkA.new0 (w.alloc (nB na)))
 rw [hsz] at HN
 have H0 := kH (((Mv.refl h).alloc (nB na)).alloc zN)
 have HTN : Hid (TreeP ((w.alloc (nB na)).alloc zN) (fun k => B0 ≤ k ∧ k ≠ w.heap.size + 1) a na) := kH (ha.kept' (fun k _ hl => (((Below.refl w.heap.size w).alloc (Nat.le_refl _) (nB na)).alloc (by simp) zN).block k hl) (fun k hk hl => ⟨hk, by omega⟩))
 clear IE hd hl h hB ha hsz
 unfold An.val
 go_enter Tryz.func76, Tryz.ntmps76
 go_wp2_with fail
 generalize (w.alloc (nB na)).alloc zN = w0 at *
 have HSL := kH H0.out.st.tll.nls.1
 refine (CL.out l er _ H0.out.st).mono ?_
 rintro e w1 ⟨rfl, m1⟩
 have HN := kH (HN.out.onl m1.2 HNZ1.out)
 have HV := kH (HV.out.onl m1.2 HNZ.out)
 have HTN := kH (HTN.out.kept' (fun k hk hl => m1.2.block k hl (by have := HB0.out; have := hk.1; omega)) (fun _ h _ => h))
 have H1 := kH (H0.out.trans m1)
 clear m1
 go_wp2_with fail
 have HLT := kH HN.out.lt
 refine (CE.out (nlsP l) er _ HSL.out H1.out.st).mono ?_
 rintro e w2 ⟨t2, n2, l2, er2, rfl, r2, m2, tr2⟩
 have HN := kH (HN.out.onl m2.2 HNZ1.out)
 have HV := kH (HV.out.onl m2.2 HNZ.out)
 have HTN := kH (HTN.out.kept' (fun k hk hl => m2.2.block k hl (by have := HB0.out; have := hk.1; omega)) (fun _ h _ => h))
 have HR2 := kH r2
 have HT2 := kH (tr2.kept' (B' := fun k => B0 ≤ k ∧ k ≠ w.heap.size + 1) (fun _ _ _ => rfl) (fun k hk _ => ⟨by have := HB0.out; have := HLT.out; omega, by have := HLT.out; omega⟩))
 have H2 := kH (H1.out.trans m2)
 clear m2 r2 tr2
 have HBHY : Hid (w2.heap.size ≠ K.b) := kH (by have := H2.out.st.lt; omega)
 have HN := kH (HN.out.alloc (nB n2))
 have HV := kH (HV.out.alloc (nB n2))
 have HTN := kH (HTN.out.below ((Below.refl _ _).alloc (Nat.le_refl _) (nB n2)))
 have HT2 := kH (HT2.out.below ((Below.refl _ _).alloc (Nat.le_refl _) (nB n2)))
 have HY := kH (BlkA.new w2 n2)
 have H2 := kH (H2.out.alloc (nB n2))
 unfold An.val
 have HSL2 := kH H2.out.st.tll.nls.1
 go_wp2_with fail
 refine (CL.out _ _ _ H2.out.st).mono ?_
 rintro e w3 ⟨rfl, m3⟩
 have HN := kH (HN.out.onl m3.2 HNZ1.out)
 have HV := kH (HV.out.onl m3.2 HNZ.out)
 have HTN := kH (HTN.out.kept' (fun k hk hl => m3.2.block k hl (by have := HB0.out; have := hk.1; omega)) (fun _ h _ => h))
 have HT2 := kH (HT2.out.kept' (fun k hk hl => m3.2.block k hl (by have := HB0.out; have := hk.1; omega)) (fun _ h _ => h))
 have HY := kH (HY.out.onl m3.2 HBHY.out)
 have H3 := kH (H2.out.trans m3)
 clear m3
 go_wp2_with fail
 have HLT := kH HN.out.lt
 refine (CW.out _ _ _ H3.out.st).mono ?_
 rintro e w4 ⟨l4, er4, rfl, r4, m4⟩
 have HN := kH (HN.out.onl m4.2 HNZ1.out)
 have HV := kH (HV.out.onl m4.2 HNZ.out)
 have HTN := kH (HTN.out.kept' (fun k hk hl => m4.2.block k hl (by have := HB0.out; have := hk.1; omega)) (fun _ h _ => h))
 have HT2 := kH (HT2.out.kept' (fun k hk hl => m4.2.block k hl (by have := HB0.out; have := hk.1; omega)) (fun _ h _ => h))
 have HY := kH (HY.out.onl m4.2 HBHY.out)
 have HR4 := kH r4
 have H4 := kH (H3.out.trans m4)
 clear m4 r4
 go_wp2_with fail
 have HSL4 := kH H4.out.st.tll.nls.1
 refine (CL.out _ _ _ H4.out.st).mono ?_
 rintro e w5 ⟨rfl, m5⟩
 have HN := kH (HN.out.onl m5.2 HNZ1.out)
 have HV := kH (HV.out.onl m5.2 HNZ.out)
 have HTN := kH (HTN.out.kept' (fun k hk hl => m5.2.block k hl (by have := HB0.out; have := hk.1; omega)) (fun _ h _ => h))
 have HT2 := kH (HT2.out.kept' (fun k hk hl => m5.2.block k hl (by have := HB0.out; have := hk.1; omega)) (fun _ h _ => h))
 have HY := kH (HY.out.onl m5.2 HBHY.out)
 have H5 := kH (H4.out.trans m5)
 clear m5
 go_wp2_with fail
 have HN := kH (HN.out.drew)
 have HV := kH (HV.out.drew)
 have HTN := kH (HTN.out.drew)
 have HT2 := kH (HT2.out.drew)
 have HY := kH (HY.out.drew)
 have H5 := kH H5.out.drew
 refine wp_region_L (st := [6]) (S := fun Z => BlkA Z w.heap.size na ∧ BlkA Z w2.heap.size n2) (by kernel_rfl) (⟨HV.out, HY.out⟩) (fun hHeld => ?_)
 generalize w5.drew = wd5 at *
 refine tkL 0 (v := ?_) rfl ?_ ?_
 rotate_left
 ·
  (intro w hSw; obtain ⟨d0, d1, d2, d3, dk0, dk1, dk2, dk3⟩ := BlkA.cells hSw.1; obtain ⟨b0, b1, b2, b3, bk0, bk1, bk2, bk3⟩ := BlkA.cells hSw.2; go_simp; try with_reducible rfl)
 try simp only [nrm]
 refine tkL 1 (v := ?_) rfl ?_ ?_
 rotate_left
 ·
  (intro w hSw; obtain ⟨d0, d1, d2, d3, dk0, dk1, dk2, dk3⟩ := BlkA.cells hSw.1; obtain ⟨b0, b1, b2, b3, bk0, bk1, bk2, bk3⟩ := BlkA.cells hSw.2; go_simp; try with_reducible rfl)
 try simp only [nrm]
 refine tkL 2 (v := ?_) rfl ?_ ?_
 rotate_left
 ·
  (intro w hSw; obtain ⟨d0, d1, d2, d3, dk0, dk1, dk2, dk3⟩ := BlkA.cells hSw.1; obtain ⟨b0, b1, b2, b3, bk0, bk1, bk2, bk3⟩ := BlkA.cells hSw.2; go_simp; try with_reducible rfl)
 try simp only [nrm]
 refine rdL 3 rfl (fun K2 hK => ?_)
 go_simp
 have HLT := kH HN.out.lt
 refine (CE.out _ _ _ (HSL4.out.trans (HR4.out.suf.trans (HSL2.out.trans (HR2.out.suf.trans HSL.out)))) H5.out.st).mono ?_
 rintro e w6 ⟨t6, n6, l6, er6, rfl, r6, m6, tr6⟩
 have HN := kH (HN.out.onl m6.2 HNZ1.out)
 have HV := kH (HV.out.onl m6.2 HNZ.out)
 have HTN := kH (HTN.out.kept' (fun k hk hl => m6.2.block k hl (by have := HB0.out; have := hk.1; omega)) (fun _ h _ => h))
 have HT2 := kH (HT2.out.kept' (fun k hk hl => m6.2.block k hl (by have := HB0.out; have := hk.1; omega)) (fun _ h _ => h))
 have HY := kH (HY.out.onl m6.2 HBHY.out)
 have HR6 := kH r6
 have HT6 := kH (tr6.kept' (B' := fun k => B0 ≤ k ∧ k ≠ w.heap.size + 1) (fun _ _ _ => rfl) (fun k hk _ => ⟨by have := HB0.out; have := HLT.out; omega, by have := HLT.out; omega⟩))
 have H6 := kH (H5.out.trans m6)
 clear m6 r6 tr6
 unfold An.val
 refine hK.out _ _ (⟨HV.out, HY.out⟩) (fun hHeld => ?_)
 clear hK K2
 try simp only [nrm]
 have HTW := kH (TreeP.three (w := w6) HTN.out HT2.out HT6.out (by have := HN.out.lt; have := HB0.out; omega) [99, 111, 110, 100])
 refine rdL 4 rfl (fun K2 hK => ?_)
 go_simp
 have HN := kH (HN.out.alloc (.cells #[.string na.op, .string na.tx, .int .i64 na.pl, .slice na.kp na.kn na.kc, .string n2.op, .string n2.tx, .int .i64 n2.pl, .slice n2.kp n2.kn n2.kc, .string n6.op, .string n6.tx, .int .i64 n6.pl, .slice n6.kp n6.kn n6.kc] 25))
 have HV := kH (HV.out.alloc (.cells #[.string na.op, .string na.tx, .int .i64 na.pl, .slice na.kp na.kn na.kc, .string n2.op, .string n2.tx, .int .i64 n2.pl, .slice n2.kp n2.kn n2.kc, .string n6.op, .string n6.tx, .int .i64 n6.pl, .slice n6.kp n6.kn n6.kc] 25))
 have HTN := kH (HTN.out.below ((Below.refl _ _).alloc (Nat.le_refl _) (.cells #[.string na.op, .string na.tx, .int .i64 na.pl, .slice na.kp na.kn na.kc, .string n2.op, .string n2.tx, .int .i64 n2.pl, .slice n2.kp n2.kn n2.kc, .string n6.op, .string n6.tx, .int .i64 n6.pl, .slice n6.kp n6.kn n6.kc] 25)))
 have HT2 := kH (HT2.out.below ((Below.refl _ _).alloc (Nat.le_refl _) (.cells #[.string na.op, .string na.tx, .int .i64 na.pl, .slice na.kp na.kn na.kc, .string n2.op, .string n2.tx, .int .i64 n2.pl, .slice n2.kp n2.kn n2.kc, .string n6.op, .string n6.tx, .int .i64 n6.pl, .slice n6.kp n6.kn n6.kc] 25)))
 have HY := kH (HY.out.alloc (.cells #[.string na.op, .string na.tx, .int .i64 na.pl, .slice na.kp na.kn na.kc, .string n2.op, .string n2.tx, .int .i64 n2.pl, .slice n2.kp n2.kn n2.kc, .string n6.op, .string n6.tx, .int .i64 n6.pl, .slice n6.kp n6.kn n6.kc] 25))
 have H6 := kH (H6.out.alloc (.cells #[.string na.op, .string na.tx, .int .i64 na.pl, .slice na.kp na.kn na.kc, .string n2.op, .string n2.tx, .int .i64 n2.pl, .slice n2.kp n2.kn n2.kc, .string n6.op, .string n6.tx, .int .i64 n6.pl, .slice n6.kp n6.kn n6.kc] 25))
 refine hK.out _ _ (⟨HV.out, HY.out⟩) (fun hHeld => ?_)
 clear hK K2
 try simp only [nrm]
 refine rdL 5 rfl (fun K2 hK => ?_)
 go_simp
 refine (CM.out _ _ _ _ _).mono ?_
 rintro e w7 ⟨rfl, hb7⟩
 have HN := kH (HN.out.below hb7)
 have HV := kH (HV.out.below hb7)
 have HTN := kH (HTN.out.below hb7)
 have HT2 := kH (HT2.out.below hb7)
 have HY := kH (HY.out.below hb7)
 have HTW := kH (HTW.out.below hb7)
 have H7 := kH (H6.out.below hb7)
 clear hb7
 unfold An.val
 refine hK.out _ _ (⟨HV.out, HY.out⟩) (fun hHeld => ?_)
 clear hK K2
 try simp only
 refine wpAnyL_ready (rs := [6]) (by kernel_rfl) (by simp) ?_
 refine AllReadyL.store (o := _) rfl (by decide) (by decide) (fun K2 hK => ?_) AllReadyL.nil
 obtain ⟨z0, z1, z2, z3, zk0, zk1, zk2, zk3⟩ := HN.out.cells
 go_simp
 refine hK.out _ _ ?_
 clear hK K2
 try simp only [nrm]
 refine wpAnyL_done (by kernel_rfl) ?_ _
 go_wp2_with fail
 exact bodyPost_ret (v := An.val ⟨bs [99, 111, 110, 100], ⟨#[]⟩, 0, some ⟨w6.heap.size, 0, none⟩, 3, 3⟩) (by simp [results, Tryz.results76, go_sem, An.val, z0, z1, z2, z3] <;> rfl) rfl (NdPost.putG (n := ⟨bs [99, 111, 110, 100], ⟨#[]⟩, 0, some ⟨w6.heap.size, 0, none⟩, 3, 3⟩) (by unfold condP; exact ((HR2.out.bnd ((HR4.out.bnd ((HR6.out.bnd (Res.ret HR6.out.ne)).pre HSL4.out)).pre HSL2.out)).pre HSL.out)) H7.out HTW.out (Nat.le_succ _) HK.out)
end Go.Proofs.YtmbfdkiejneheaaGreatDoor
