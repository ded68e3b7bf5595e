/-
 CONTRACTS of layer 13's product and sum.
-/
import Derived.Test.YtmbfdkiejneheaaGreatDoorPaW9
import Derived.Test.YtmbfdkiejneheaaGreatDoorShelf
namespace Go.Proofs.YtmbfdkiejneheaaGreatDoor
open Go.RowKit

/-- A row of texts. -/
structure SgAt (w : World) (g : Nat) (ss : List (List UInt8)) : Prop where
 lt : g < w.heap.size
 c : ∀ j, j < (ss.map bs).length → w.cell? ⟨g, 0 + j, none⟩ = some (.string ((ss.map bs).getD j ByteArray.empty))
theorem SgAt.onl {w w' : World} {b g : Nat} {ss : List (List UInt8)} (h : SgAt w g ss) (o : Onl b w w') (hg : g ≠ b) : SgAt w' g ss :=
 ⟨Nat.lt_of_lt_of_le h.lt o.size, fun j hj => (o.cell (p := ⟨g, 0 + j, none⟩) h.lt hg).trans (h.c j hj)⟩
theorem SgAt.below {w w' : World} {g : Nat} {ss : List (List UInt8)} (h : SgAt w g ss) (o : Below w.heap.size w w') : SgAt w' g ss :=
 ⟨Nat.lt_of_lt_of_le h.lt o.size, fun j hj => (o.cell (p := ⟨g, 0 + j, none⟩) h.lt).trans (h.c j hj)⟩
theorem SgAt.drew {w : World} {g : Nat} {ss : List (List UInt8)} (h : SgAt w g ss) : SgAt w.drew g ss := ⟨h.lt, h.c⟩
theorem contains_sg {ss : List (List UInt8)} (s : List UInt8) (n : Nat) (hn : n = ss.length) : Go.Lib.containsS ((ss.map bs).take n) ⟨s.toArray⟩ = decide (s ∈ ss) := by
 rw [List.take_of_length_le (by rw [List.length_map]; omega), Bool.eq_iff_iff, Go.Lib.containsS_iff, decide_eq_true_iff]
 constructor
 ·
  intro h
  obtain ⟨a, ha, e⟩ := List.mem_map.1 h
  rw [← bs_inj (b := s) e]; exact ha
 ·
  intro h; exact List.mem_map.2 ⟨s, h, rfl⟩
theorem psl_any (s : List UInt8) (ss : List (List UInt8)) (g c : Nat) (w : World) (h : SgAt w g ss) (hs : ss.length ≤ 10) : Calls Tryz.prog 98 #[.slice (some ⟨g, 0, none⟩) ss.length c, .string ⟨s.toArray⟩] w fun e w' => e = .returned (.bool (decide (s ∈ ss))) ∧ w' = w := by
 have := Go.Proofs.Tryz.slices_Contains_string g 0 ss.length c (ss.map bs) ⟨s.toArray⟩ w (by rw [List.length_map]; exact Nat.le_refl _) (by omega) h.c
 rw [contains_sg s ss.length rfl] at this
 exact this
theorem SgAt.kept {w w' : World} {g : Nat} {ss : List (List UInt8)} (h : SgAt w g ss) (hs : w.heap.size ≤ w'.heap.size) (hk : w'.heap[g]? = w.heap[g]?) : SgAt w' g ss :=
 ⟨Nat.lt_of_lt_of_le h.lt hs, fun j hj => (World.cell?_of_block (a := ⟨g, 0 + j, none⟩) hk).trans (h.c j hj)⟩
/-- A node of two in new memory. -/
theorem TreeP.two {w : World} {B : Nat → Prop} {t u : PT} {n m : An} (ht : TreeP w B t n) (hu : TreeP w B u m) (hB : B w.heap.size) (op : List UInt8) :
  TreeP (w.alloc (nB2 n m)) B (nd op [t, u]) ⟨bs op, ⟨#[]⟩, 0, some ⟨w.heap.size, 0, none⟩, 2, 2⟩ := by
 have hb : Below w.heap.size w (w.alloc (nB2 n m)) := (Below.refl _ _).alloc (Nat.le_refl _) _
 refine TreeP.mk (ns := [n, m]) rfl rfl rfl ?_ (fun g hg => ?_) (.cons (ht.below hb) (.one (hu.below hb)))
 ·
  exact World.ownsRow_lit (base := 0) (e := 25) (size := 4) w #[.string n.op, .string n.tx, .int .i64 n.pl, .slice n.kp n.kn n.kc, .string m.op, .string m.tx, .int .i64 m.pl, .slice m.kp m.kn m.kc] 2 (Nat.zero_le _) (by decide) rfl
 ·
  simp [An.kids, Value.ownBlock] at hg
  subst hg; exact hB
/-- Where a chain's loop stands. -/
structure ChSt (K : Ps) (w : World) (gN gs : Nat) (G : List Tok → TR PT) (ss : List (List UInt8)) (X : TR PT) (l : List Tok) (dp : Nat) (pr : Bool) (er : ErO) (gk : Nat) (wr : World) : Prop where
 ex : ∃ t n l1 er1 k, l1 <:+ l ∧ l1.length ≤ gk ∧ l1.length < k ∧ Mv K w l1 dp pr er1 wr ∧ BlkA wr w.heap.size An.zero ∧ BlkA wr gN n ∧ TreeP wr (fun i => w.heap.size + 1 ≤ i ∧ i ≠ gN) t n ∧ SgAt wr gs ss ∧ (∀ a l2 er2, Res (chainL G ss k l1 t) l1 er1 a l2 er2 → Res X l er a l2 er2)
set_option maxHeartbeats 8000000 in
set_option maxRecDepth 100000 in
theorem pchain_any {K : Ps} {f : FuncId} {G : List Tok → TR PT} {dp : Nat} {pr : Bool} {l : List Tok} (hcf : ∀ xs w, (callFunc f xs).run Tryz.prog w = .ok (.enter f xs) w)
  (CG : ∀ l1 er W, l1 <:+ l → Pst W K l1 dp pr er → Calls Tryz.prog f #[.pointer (some ⟨K.b, 0, none⟩)] W (NdPost K W W.heap.size l1 (G l1) dp pr er)) (ss : List (List UInt8)) (hss : [] ∉ ss) (hsl : ss.length ≤ 10) (gs cs : Nat) (er : ErO) (w : World) (h : Pst w K l dp pr er) (hg : SgAt w gs ss) (hgs : gs ≠ K.b) :
  Calls Tryz.prog 88 #[.pointer (some ⟨K.b, 0, none⟩), .func (.func f) #[.pointer (some ⟨K.b, 0, none⟩)] #[], .slice (some ⟨gs, 0, none⟩) ss.length cs] w (NdPost K w w.heap.size l (chainP G ss l) dp pr er) := by
 have CE := kH fun W hW => CG l er W (List.suffix_refl _) hW
 have CG := kH CG
 have CF := kH fun l1 er1 => pfix_any K l1 dp pr er1
 have CC := kH fun s W hW => psl_any s ss gs cs W hW hsl
 have CN := kH fun l1 er1 => pnext_any K l1 dp pr er1
 have CL := kH fun l1 er1 => pnls_any K l1 dp pr er1
 have CB := kH fun s W => pbin_any s W
 have CM := kH fun o p n c W => pnode_any o p n c W
 have HSS := kH hss
 have HGS : Hid (gs ≠ K.b ∧ gs < w.heap.size) := kH ⟨hgs, hg.lt⟩
 have HSG := kH (hg.below ((Below.refl _ _).alloc (Nat.le_refl _) zN))
 have HK : Hid (K.b < w.heap.size ∧ K.g < w.heap.size) := kH ⟨h.lt, h.glt⟩
 have HNZ : Hid (w.heap.size ≠ K.b) := kH (by have := HK.out; omega)
 have HN := kH (BlkA.new0 w)
 have H0 := kH ((Mv.refl h).alloc zN)
 have HSZ : Hid (w.heap.size + 1 = (w.alloc zN).heap.size) := kH (by simp)
 clear hss hgs hg h
 go_enter Tryz.func88, Tryz.ntmps88
 go_wp2_with fail
 generalize w.alloc zN = w0 at *
 have HLT := kH HN.out.lt
 refine (CE.out _ H0.out.st).mono ?_
 rintro e w1 ⟨t1, n1, l1, er1, rfl, r1, m1, tr1⟩
 have HN := kH (HN.out.onl m1.2 HNZ.out)
 have HSG := kH (HSG.out.onl m1.2 HGS.out.1)
 have HR1 := kH r1
 have HT1 := kH (tr1.low (B1 := w.heap.size + 1) (by have := HLT.out; omega))
 have HS1 := kH m1.2.size
 have H1 := kH (H0.out.trans m1)
 clear m1 r1 tr1
 unfold An.val
 have HTN : Hid (TreeP w1 (fun i => w.heap.size + 1 ≤ i ∧ i ≠ w1.heap.size) t1 n1) := kH (HT1.out.kept' (fun _ _ _ => rfl) (fun k hk hl => ⟨hk, by omega⟩))
 have HBHV : Hid (w1.heap.size ≠ K.b) := kH (by have := H1.out.st.lt; omega)
 have HN := kH (HN.out.alloc (nB n1))
 have HSG := kH (HSG.out.below ((Below.refl _ _).alloc (Nat.le_refl _) (nB n1)))
 have HTN := kH (HTN.out.below ((Below.refl _ _).alloc (Nat.le_refl _) (nB n1)))
 have HV := kH (BlkA.new w1 n1)
 have H1 := kH (H1.out.alloc (nB n1))
 go_wp2_with fail
 have HI : Hid (ChSt K w w1.heap.size gs G ss (chainP G ss l) l dp pr er l.length (w1.alloc (nB n1))) := kH ⟨t1, n1, l1, er1, l1.length + 1, HR1.out.suf, HR1.out.suf.length_le, by omega, H1.out, HN.out, HV.out, HTN.out, HSG.out, fun a l2 er2 k => HR1.out.bnd k⟩
 have HGN : Hid (w.heap.size < w1.heap.size) := kH (by have := HS1.out; have := HLT.out; omega)
 clear H1 HR1 HN HV HTN HT1 HSG CE H0 HLT HBHV HS1
 generalize w1.alloc (nB n1) = wa at *
 generalize w1.heap.size = gN at *
 have HGK : Hid (gN ≠ K.b ∧ gN ≠ K.g ∧ gs ≠ gN) := kH (by have := HK.out; have := HGN.out; have := HGS.out.2; omega)
 go_loopg [] l.length (fun gk wr => Hid (ChSt K w gN gs G ss (chainP G ss l) l dp pr er gk wr))
 case atStart => exact HI
 case round =>
  clear HI
  obtain ⟨t, n, l1, er1, k, hsf, hgk, hk, hmv, hz, hn, ht, hsg, hres⟩ := hrel.out.ex
  have HN := kH hz
  have HV := kH hn
  have HTN := kH ht
  have HSG := kH hsg
  have HBHV : Hid (gN ≠ K.b) := kH HGK.out.1
  have H1 := kH hmv
  have CF := kH (CF.out l1 er1)
  have CC := kH (CC.out (fx l1))
  by_cases hc : fx l1 ∈ ss
  ·
   rw [decide_eq_true hc] at CC
   have hk0 : (tk l1).k ≠ 0 := fx_kind rfl (fun e => HSS.out (e ▸ hc))
   have hnx := hmv.st.tll.nx
   have hlt := hnx.2.2.2 hk0
   have hf := Tryz.fldT (tk l1).k (tk l1).a ⟨(tk l1).t.toArray⟩
   have CN := kH (CN.out l1 er1)
   have CB := kH (CB.out (tk l1).t)
   have HRS : Hid (∀ lp, lp = (if binO (tk l1).t = [111, 114] ∨ binO (tk l1).t = [97, 110, 100] then nlsP (nx l1) else nx l1) → lp <:+ l ∧ ∀ u l2 er2, Res (G lp) lp er1 u l2 er2 → l2 <:+ l ∧ l2.length ≤ gk - 1 ∧ gk - 1 < gk ∧ l2.length < k - 1 ∧ ∀ a l3 er3, Res (chainL G ss (k - 1) l2 (nd (binO (tk l1).t) [t, u])) l2 er2 a l3 er3 → Res (chainP G ss l) l er a l3 er3) := kH (by
    intro lp hlp
    have h1 : lp <:+ nx l1 := by rw [hlp]; split; exact hnx.2.2.1.nls.1; exact List.suffix_refl _
    refine ⟨h1.trans (hnx.1.trans hsf), fun u l2 er2 hr => ?_⟩
    have h2 := hr.suf.length_le
    have h3 := h1.length_le
    refine ⟨hr.suf.trans (h1.trans (hnx.1.trans hsf)), by omega, by omega, by omega, fun a l3 er3 h4 => hres a l3 er3 ?_⟩
    obtain ⟨k, rfl⟩ : ∃ j, k = j + 1 := ⟨k - 1, by omega⟩
    unfold chainL
    rw [if_pos hc, ← hlp]
    exact (hr.bnd h4).pre (h1.trans hnx.1))
   clear hc hsf hgk hk hmv hz hn ht hsg hres hrel hk0 hlt hnx
   go_wp2_with fail
   refine (CF.out _ H1.out.st).mono ?_
   rintro e w2 ⟨rfl, m2⟩
   have HN := kH (HN.out.onl m2.2 HNZ.out)
   have HV := kH (HV.out.onl m2.2 HBHV.out)
   have HTN := kH (HTN.out.kept' (fun k hk hl => m2.2.block k hl (by have := HK.out; have := hk.1; omega)) (fun _ h _ => h))
   have HSG := kH (HSG.out.onl m2.2 HGS.out.1)
   have H2 := kH (H1.out.trans m2)
   clear m2
   go_wp2_with fail
   refine (CC.out _ HSG.out).mono ?_
   rintro e w3 ⟨rfl, rfl⟩
   go_wp2_with fail
   refine (CN.out _ H2.out.st).mono ?_
   rintro e w3 ⟨rfl, m3⟩
   have HN := kH (HN.out.onl m3.2 HNZ.out)
   have HV := kH (HV.out.onl m3.2 HBHV.out)
   have HTN := kH (HTN.out.kept' (fun k hk hl => m3.2.block k hl (by have := HK.out; have := hk.1; omega)) (fun _ h _ => h))
   have HSG := kH (HSG.out.onl m3.2 HGS.out.1)
   have H3 := kH (H2.out.trans m3)
   clear m3
   unfold tokV
   go_wp2_with fail
   refine (CB.out _).mono ?_
   rintro e w4 ⟨rfl, rfl⟩
   generalize hBo : binO (tk l1).t = Bo at *
   by_cases ho : Bo = [111, 114]
   ·
    have e1 : (Bo == [111, 114]) = true := by rw [ho]; rfl
    have HLP := kH (HRS.out _ rfl)
    rw [if_pos (Or.inl ho)] at HLP
    clear HRS ho
    have CG := kH (CG.out (nlsP (nx l1)) er1)
    go_wp2_with fail
    refine ((CL.out (nx l1) er1) _ H3.out.st).mono ?_
    rintro e w4 ⟨rfl, m4⟩
    have HN := kH (HN.out.onl m4.2 HNZ.out)
    have HV := kH (HV.out.onl m4.2 HBHV.out)
    have HTN := kH (HTN.out.kept' (fun k hk hl => m4.2.block k hl (by have := HK.out; have := hk.1; omega)) (fun _ h _ => h))
    have HSG := kH (HSG.out.onl m4.2 HGS.out.1)
    have H4 := kH (H3.out.trans m4)
    clear m4
    go_wp2_with fail
    have HN := kH (HN.out.drew)
    have HV := kH (HV.out.drew)
    have HTN := kH (HTN.out.drew)
    have HSG := kH (HSG.out.drew)
    have H4 := kH H4.out.drew
    refine wp_region_L (st := [6]) (S := fun Z => BlkA Z gN n) (by kernel_rfl) (HV.out) (fun hHeld => ?_)
    generalize w4.drew = wd4 at *
    refine tkL 0 (v := ?_) rfl ?_ ?_
    rotate_left
    ·
     (intro w hSw; obtain ⟨d0, d1, d2, d3, dk0, dk1, dk2, dk3⟩ := BlkA.cells hSw; go_simp; try with_reducible rfl)
    try simp only [nrm]
    refine tkL 1 (v := ?_) rfl ?_ ?_
    rotate_left
    ·
     (intro w hSw; obtain ⟨d0, d1, d2, d3, dk0, dk1, dk2, dk3⟩ := BlkA.cells hSw; go_simp; try with_reducible rfl)
    try simp only [nrm]
    refine tkL 2 (v := ?_) rfl ?_ ?_
    rotate_left
    ·
     (intro w hSw; obtain ⟨d0, d1, d2, d3, dk0, dk1, dk2, dk3⟩ := BlkA.cells hSw; go_simp; try with_reducible rfl)
    try simp only [nrm]
    refine rdL 3 rfl (fun K2 hK => ?_)
    go_simp
    have HLT := kH HN.out.lt
    have HLTV := kH HV.out.lt
    refine (CG.out _ HLP.out.1 H4.out.st).mono ?_
    rintro e w5 ⟨u, m, l5, er5, rfl, r5, m5, tu⟩
    have HN := kH (HN.out.onl m5.2 HNZ.out)
    have HV := kH (HV.out.onl m5.2 HBHV.out)
    have HTN := kH (HTN.out.kept' (fun k hk hl => m5.2.block k hl (by have := HK.out; have := hk.1; omega)) (fun _ h _ => h))
    have HSG := kH (HSG.out.onl m5.2 HGS.out.1)
    have HR5 := kH r5
    have HRR := kH (HLP.out.2 _ _ _ r5)
    have HU := kH (tu.kept' (B' := fun i => w.heap.size + 1 ≤ i ∧ i ≠ gN) (fun _ _ _ => rfl) (fun k hk _ => by have := HLT.out; have := HLTV.out; omega))
    have H5 := kH (H4.out.trans m5)
    clear m5 r5 tu
    unfold An.val
    refine hK.out _ _ (HV.out) (fun hHeld => ?_)
    clear hK K2
    try simp only [nrm]
    have HTW := kH (TreeP.two (w := w5) HTN.out HU.out (by have := HV.out.lt; have := HN.out.lt; omega) Bo)
    refine rdL 4 rfl (fun K2 hK => ?_)
    go_simp
    have HN := kH (HN.out.alloc (nB2 n m))
    have HV := kH (HV.out.alloc (nB2 n m))
    have HSG := kH (HSG.out.below ((Below.refl _ _).alloc (Nat.le_refl _) (nB2 n m)))
    have H5 := kH (H5.out.alloc (nB2 n m))
    refine hK.out _ _ (HV.out) (fun hHeld => ?_)
    clear hK K2
    try simp only [nrm]
    refine rdL 5 rfl (fun K2 hK => ?_)
    go_simp
    refine (CM.out _ _ _ _ _).mono ?_
    rintro e w6 ⟨rfl, hb6⟩
    have HN := kH (HN.out.below hb6)
    have HV := kH (HV.out.below hb6)
    have HSG := kH (HSG.out.below hb6)
    have HTW := kH (HTW.out.below hb6)
    have H6 := kH (H5.out.below hb6)
    clear hb6
    unfold An.val
    refine hK.out _ _ (HV.out) (fun hHeld => ?_)
    clear hK K2
    try simp only
    refine wpAnyL_ready (rs := [6]) (by kernel_rfl) (by simp) ?_
    refine AllReadyL.store (o := _) rfl (by decide) (by decide) (fun K2 hK => ?_) AllReadyL.nil
    obtain ⟨z0, z1, z2, z3, zk0, zk1, zk2, zk3⟩ := HV.out.cells
    go_simp
    refine hK.out _ _ ?_
    clear hK K2
    try simp only [nrm]
    refine wpAnyL_done (by kernel_rfl) ?_ _
    go_wp2_with fail
    go_roundg (gk - 1)
    case measure => exact HRR.out.2.2.1
    case rel =>
     have hput : ∀ k, k ≠ gN → (putA w6 gN ⟨bs Bo, ⟨#[]⟩, 0, some ⟨w5.heap.size, 0, none⟩, 2, 2⟩).heap[k]? = w6.heap[k]? := fun k hk => putA_block hk _
     show Hid (ChSt K w gN gs G ss (chainP G ss l) l dp pr er (gk - 1) (putA w6 gN ⟨bs Bo, ⟨#[]⟩, 0, some ⟨w5.heap.size, 0, none⟩, 2, 2⟩))
     refine kH ⟨nd Bo [t, u], ⟨bs Bo, ⟨#[]⟩, 0, some ⟨w5.heap.size, 0, none⟩, 2, 2⟩, l5, er5, k - 1, HRR.out.1, HRR.out.2.1, HRR.out.2.2.2.1, Mv.putA H6.out (Nat.le_of_lt HGN.out) HK.out _, (hput _ (by have := HGN.out; omega)).trans HN.out, BlkA.putA HV.out _, HTW.out.kept' (fun k hk _ => hput k hk.2) (fun _ h _ => h), HSG.out.kept (by rw [putA_size]; exact Nat.le_refl _) (hput _ HGK.out.2.2), HRR.out.2.2.2.2⟩
   ·
    by_cases ha : Bo = [97, 110, 100]
    ·
     have e1 : (Bo == [111, 114]) = false := by rw [beq_eq_false_iff_ne]; exact ho
     have e2 : (Bo == [97, 110, 100]) = true := by rw [ha]; rfl
     have HLP := kH (HRS.out _ rfl)
     rw [if_pos (Or.inr ha)] at HLP
     clear HRS ho ha
     have CG := kH (CG.out (nlsP (nx l1)) er1)
     go_wp2_with fail
     refine ((CL.out (nx l1) er1) _ H3.out.st).mono ?_
     rintro e w4 ⟨rfl, m4⟩
     have HN := kH (HN.out.onl m4.2 HNZ.out)
     have HV := kH (HV.out.onl m4.2 HBHV.out)
     have HTN := kH (HTN.out.kept' (fun k hk hl => m4.2.block k hl (by have := HK.out; have := hk.1; omega)) (fun _ h _ => h))
     have HSG := kH (HSG.out.onl m4.2 HGS.out.1)
     have H4 := kH (H3.out.trans m4)
     clear m4
     go_wp2_with fail
     have HN := kH (HN.out.drew)
     have HV := kH (HV.out.drew)
     have HTN := kH (HTN.out.drew)
     have HSG := kH (HSG.out.drew)
     have H4 := kH H4.out.drew
     refine wp_region_L (st := [6]) (S := fun Z => BlkA Z gN n) (by kernel_rfl) (HV.out) (fun hHeld => ?_)
     generalize w4.drew = wd4 at *
     refine tkL 0 (v := ?_) rfl ?_ ?_
     rotate_left
     ·
      (intro w hSw; obtain ⟨d0, d1, d2, d3, dk0, dk1, dk2, dk3⟩ := BlkA.cells hSw; go_simp; try with_reducible rfl)
     try simp only [nrm]
     refine tkL 1 (v := ?_) rfl ?_ ?_
     rotate_left
     ·
      (intro w hSw; obtain ⟨d0, d1, d2, d3, dk0, dk1, dk2, dk3⟩ := BlkA.cells hSw; go_simp; try with_reducible rfl)
     try simp only [nrm]
     refine tkL 2 (v := ?_) rfl ?_ ?_
     rotate_left
     ·
      (intro w hSw; obtain ⟨d0, d1, d2, d3, dk0, dk1, dk2, dk3⟩ := BlkA.cells hSw; go_simp; try with_reducible rfl)
     try simp only [nrm]
     refine rdL 3 rfl (fun K2 hK => ?_)
     go_simp
     have HLT := kH HN.out.lt
     have HLTV := kH HV.out.lt
     refine (CG.out _ HLP.out.1 H4.out.st).mono ?_
     rintro e w5 ⟨u, m, l5, er5, rfl, r5, m5, tu⟩
     have HN := kH (HN.out.onl m5.2 HNZ.out)
     have HV := kH (HV.out.onl m5.2 HBHV.out)
     have HTN := kH (HTN.out.kept' (fun k hk hl => m5.2.block k hl (by have := HK.out; have := hk.1; omega)) (fun _ h _ => h))
     have HSG := kH (HSG.out.onl m5.2 HGS.out.1)
     have HR5 := kH r5
     have HRR := kH (HLP.out.2 _ _ _ r5)
     have HU := kH (tu.kept' (B' := fun i => w.heap.size + 1 ≤ i ∧ i ≠ gN) (fun _ _ _ => rfl) (fun k hk _ => by have := HLT.out; have := HLTV.out; omega))
     have H5 := kH (H4.out.trans m5)
     clear m5 r5 tu
     unfold An.val
     refine hK.out _ _ (HV.out) (fun hHeld => ?_)
     clear hK K2
     try simp only [nrm]
     have HTW := kH (TreeP.two (w := w5) HTN.out HU.out (by have := HV.out.lt; have := HN.out.lt; omega) Bo)
     refine rdL 4 rfl (fun K2 hK => ?_)
     go_simp
     have HN := kH (HN.out.alloc (nB2 n m))
     have HV := kH (HV.out.alloc (nB2 n m))
     have HSG := kH (HSG.out.below ((Below.refl _ _).alloc (Nat.le_refl _) (nB2 n m)))
     have H5 := kH (H5.out.alloc (nB2 n m))
     refine hK.out _ _ (HV.out) (fun hHeld => ?_)
     clear hK K2
     try simp only [nrm]
     refine rdL 5 rfl (fun K2 hK => ?_)
     go_simp
     refine (CM.out _ _ _ _ _).mono ?_
     rintro e w6 ⟨rfl, hb6⟩
     have HN := kH (HN.out.below hb6)
     have HV := kH (HV.out.below hb6)
     have HSG := kH (HSG.out.below hb6)
     have HTW := kH (HTW.out.below hb6)
     have H6 := kH (H5.out.below hb6)
     clear hb6
     unfold An.val
     refine hK.out _ _ (HV.out) (fun hHeld => ?_)
     clear hK K2
     try simp only
     refine wpAnyL_ready (rs := [6]) (by kernel_rfl) (by simp) ?_
     refine AllReadyL.store (o := _) rfl (by decide) (by decide) (fun K2 hK => ?_) AllReadyL.nil
     obtain ⟨z0, z1, z2, z3, zk0, zk1, zk2, zk3⟩ := HV.out.cells
     go_simp
     refine hK.out _ _ ?_
     clear hK K2
     try simp only [nrm]
     refine wpAnyL_done (by kernel_rfl) ?_ _
     go_wp2_with fail
     go_roundg (gk - 1)
     case measure => exact HRR.out.2.2.1
     case rel =>
      have hput : ∀ k, k ≠ gN → (putA w6 gN ⟨bs Bo, ⟨#[]⟩, 0, some ⟨w5.heap.size, 0, none⟩, 2, 2⟩).heap[k]? = w6.heap[k]? := fun k hk => putA_block hk _
      show Hid (ChSt K w gN gs G ss (chainP G ss l) l dp pr er (gk - 1) (putA w6 gN ⟨bs Bo, ⟨#[]⟩, 0, some ⟨w5.heap.size, 0, none⟩, 2, 2⟩))
      refine kH ⟨nd Bo [t, u], ⟨bs Bo, ⟨#[]⟩, 0, some ⟨w5.heap.size, 0, none⟩, 2, 2⟩, l5, er5, k - 1, HRR.out.1, HRR.out.2.1, HRR.out.2.2.2.1, Mv.putA H6.out (Nat.le_of_lt HGN.out) HK.out _, (hput _ (by have := HGN.out; omega)).trans HN.out, BlkA.putA HV.out _, HTW.out.kept' (fun k hk _ => hput k hk.2) (fun _ h _ => h), HSG.out.kept (by rw [putA_size]; exact Nat.le_refl _) (hput _ HGK.out.2.2), HRR.out.2.2.2.2⟩
    ·
     have e1 : (Bo == [111, 114]) = false := by rw [beq_eq_false_iff_ne]; exact ho
     have e2 : (Bo == [97, 110, 100]) = false := by rw [beq_eq_false_iff_ne]; exact ha
     have HLP := kH (HRS.out _ rfl)
     rw [if_neg (by rintro (h | h) <;> contradiction)] at HLP
     clear HRS ho ha
     have CG := kH (CG.out (nx l1) er1)
     go_wp2_with fail
     have HN := kH (HN.out.drew)
     have HV := kH (HV.out.drew)
     have HTN := kH (HTN.out.drew)
     have HSG := kH (HSG.out.drew)
     have H3 := kH H3.out.drew
     refine wp_region_L (st := [6]) (S := fun Z => BlkA Z gN n) (by kernel_rfl) (HV.out) (fun hHeld => ?_)
     generalize w3.drew = wd3 at *
     refine tkL 0 (v := ?_) rfl ?_ ?_
     rotate_left
     ·
      (intro w hSw; obtain ⟨d0, d1, d2, d3, dk0, dk1, dk2, dk3⟩ := BlkA.cells hSw; go_simp; try with_reducible rfl)
     try simp only [nrm]
     refine tkL 1 (v := ?_) rfl ?_ ?_
     rotate_left
     ·
      (intro w hSw; obtain ⟨d0, d1, d2, d3, dk0, dk1, dk2, dk3⟩ := BlkA.cells hSw; go_simp; try with_reducible rfl)
     try simp only [nrm]
     refine tkL 2 (v := ?_) rfl ?_ ?_
     rotate_left
     ·
      (intro w hSw; obtain ⟨d0, d1, d2, d3, dk0, dk1, dk2, dk3⟩ := BlkA.cells hSw; go_simp; try with_reducible rfl)
     try simp only [nrm]
     refine rdL 3 rfl (fun K2 hK => ?_)
     go_simp
     have HLT := kH HN.out.lt
     have HLTV := kH HV.out.lt
     refine (CG.out _ HLP.out.1 H3.out.st).mono ?_
     rintro e w4 ⟨u, m, l5, er5, rfl, r4, m4, tu⟩
     have HN := kH (HN.out.onl m4.2 HNZ.out)
     have HV := kH (HV.out.onl m4.2 HBHV.out)
     have HTN := kH (HTN.out.kept' (fun k hk hl => m4.2.block k hl (by have := HK.out; have := hk.1; omega)) (fun _ h _ => h))
     have HSG := kH (HSG.out.onl m4.2 HGS.out.1)
     have HR4 := kH r4
     have HRR := kH (HLP.out.2 _ _ _ r4)
     have HU := kH (tu.kept' (B' := fun i => w.heap.size + 1 ≤ i ∧ i ≠ gN) (fun _ _ _ => rfl) (fun k hk _ => by have := HLT.out; have := HLTV.out; omega))
     have H4 := kH (H3.out.trans m4)
     clear m4 r4 tu
     unfold An.val
     refine hK.out _ _ (HV.out) (fun hHeld => ?_)
     clear hK K2
     try simp only [nrm]
     have HTW := kH (TreeP.two (w := w4) HTN.out HU.out (by have := HV.out.lt; have := HN.out.lt; omega) Bo)
     refine rdL 4 rfl (fun K2 hK => ?_)
     go_simp
     have HN := kH (HN.out.alloc (nB2 n m))
     have HV := kH (HV.out.alloc (nB2 n m))
     have HSG := kH (HSG.out.below ((Below.refl _ _).alloc (Nat.le_refl _) (nB2 n m)))
     have H4 := kH (H4.out.alloc (nB2 n m))
     refine hK.out _ _ (HV.out) (fun hHeld => ?_)
     clear hK K2
     try simp only [nrm]
     refine rdL 5 rfl (fun K2 hK => ?_)
     go_simp
     refine (CM.out _ _ _ _ _).mono ?_
     rintro e w5 ⟨rfl, hb5⟩
     have HN := kH (HN.out.below hb5)
     have HV := kH (HV.out.below hb5)
     have HSG := kH (HSG.out.below hb5)
     have HTW := kH (HTW.out.below hb5)
     have H5 := kH (H4.out.below hb5)
     clear hb5
     unfold An.val
     refine hK.out _ _ (HV.out) (fun hHeld => ?_)
     clear hK K2
     try simp only
     refine wpAnyL_ready (rs := [6]) (by kernel_rfl) (by simp) ?_
     refine AllReadyL.store (o := _) rfl (by decide) (by decide) (fun K2 hK => ?_) AllReadyL.nil
     obtain ⟨z0, z1, z2, z3, zk0, zk1, zk2, zk3⟩ := HV.out.cells
     go_simp
     refine hK.out _ _ ?_
     clear hK K2
     try simp only [nrm]
     refine wpAnyL_done (by kernel_rfl) ?_ _
     go_wp2_with fail
     go_roundg (gk - 1)
     case measure => exact HRR.out.2.2.1
     case rel =>
      have hput : ∀ k, k ≠ gN → (putA w5 gN ⟨bs Bo, ⟨#[]⟩, 0, some ⟨w4.heap.size, 0, none⟩, 2, 2⟩).heap[k]? = w5.heap[k]? := fun k hk => putA_block hk _
      show Hid (ChSt K w gN gs G ss (chainP G ss l) l dp pr er (gk - 1) (putA w5 gN ⟨bs Bo, ⟨#[]⟩, 0, some ⟨w4.heap.size, 0, none⟩, 2, 2⟩))
      refine kH ⟨nd Bo [t, u], ⟨bs Bo, ⟨#[]⟩, 0, some ⟨w4.heap.size, 0, none⟩, 2, 2⟩, l5, er5, k - 1, HRR.out.1, HRR.out.2.1, HRR.out.2.2.2.1, Mv.putA H5.out (Nat.le_of_lt HGN.out) HK.out _, (hput _ (by have := HGN.out; omega)).trans HN.out, BlkA.putA HV.out _, HTW.out.kept' (fun k hk _ => hput k hk.2) (fun _ h _ => h), HSG.out.kept (by rw [putA_size]; exact Nat.le_refl _) (hput _ HGK.out.2.2), HRR.out.2.2.2.2⟩
  ·
   have HX : Hid (Res (chainP G ss l) l er t l1 er1) := kH (hres _ _ _ (by
    obtain ⟨k, rfl⟩ : ∃ j, k = j + 1 := ⟨k - 1, by omega⟩
    unfold chainL
    rw [if_neg hc]
    exact Res.ret hmv.st.ne))
   rw [decide_eq_false hc] at CC
   clear hc hsf hgk hk hmv hz hn ht hsg hres hrel
   go_wp2_with fail

   refine (CF.out _ H1.out.st).mono ?_
   rintro e w2 ⟨rfl, m2⟩
   have HN := kH (HN.out.onl m2.2 HNZ.out)
   have HV := kH (HV.out.onl m2.2 HBHV.out)
   have HTN := kH (HTN.out.kept' (fun k hk hl => m2.2.block k hl (by have := HK.out; have := hk.1; omega)) (fun _ h _ => h))
   have HSG := kH (HSG.out.onl m2.2 HGS.out.1)
   have H2 := kH (H1.out.trans m2)
   clear m2
   go_wp2_with fail
   refine (CC.out _ HSG.out).mono ?_
   rintro e w3 ⟨rfl, rfl⟩
   obtain ⟨v0, v1, v2, v3, vk0, vk1, vk2, vk3⟩ := HV.out.cells
   obtain ⟨z0, z1, z2, z3, zk0, zk1, zk2, zk3⟩ := HN.out.cells
   go_wp2_with fail
   exact bodyPost_ret (v := An.val n) (by simp [results, Tryz.results88, go_sem, An.val, z0, z1, z2, z3]) rfl (NdPost.put (n := n) (HX.out) H2.out (HTN.out.kept' (fun _ _ _ => rfl) (fun _ hk _ => hk.1)) HK.out)
end Go.Proofs.YtmbfdkiejneheaaGreatDoor

namespace Go.Proofs.YtmbfdkiejneheaaGreatDoor
open Go.RowKit

theorem cf_pproduct_any : ∀ xs w, (callFunc 119 xs).run Tryz.prog w = .ok (.enter 119 xs) w := fun _ _ => by kernel_rfl
set_option maxHeartbeats 8000000 in
set_option maxRecDepth 100000 in
theorem pproduct_any {reOk : List UInt8 → Bool} {K : Ps} {m : Nat} (HRe : ReOk reOk) (IE : OkE reOk K m 59 fun R pr => R.E pr) (IP : OkN reOk K m 124 fun R _ => primP reOk R) (IU : OkN reOk K m 119 fun R _ => unaryP reOk R) (dp : Nat) (pr : Bool) (l : List Tok) (er : ErO) (w : World) (hd : DpOk dp l) (hl : l.length ≤ m) (h : Pst w K l dp pr er) :
  Calls Tryz.prog 118 #[.pointer (some ⟨K.b, 0, none⟩)] w (NdPost K w w.heap.size l (productP reOk (rcP reOk (50 - dp)) l) dp pr er) := by
 have CC := kH fun gs cs W hW hg hgs => pchain_any (K := K) (f := 119) (G := unaryP reOk (rcP reOk (50 - dp))) (dp := dp) (pr := pr) (l := l) cf_pproduct_any (fun l1 er1 W1 hs h1 => punary_any HRe IE IP IU dp pr l1 er1 W1 (hd.suf hs h1.ne) (Nat.le_trans hs.length_le hl) h1) [[42], [47], [37]] (by decide) (by decide) gs cs er W hW hg hgs
 have HK : Hid (K.b < w.heap.size ∧ K.g < w.heap.size) := kH ⟨h.lt, h.glt⟩
 have HNZ : Hid (w.heap.size ≠ K.b) := kH (by have := HK.out; omega)
 have HN := kH (BlkA.new0 w)
 have H0 := kH ((Mv.refl h).alloc zN)
 have HSZ : Hid (w.heap.size + 1 = (w.alloc zN).heap.size) := kH (by simp)
 clear HRe IE IP IU hd hl h
 go_enter Tryz.func118, Tryz.ntmps118
 go_wp2_with fail
 generalize w.alloc zN = w0 at *
 have HSG : Hid (SgAt (w0.alloc (.cells #[.string ⟨#[42]⟩, .string ⟨#[47]⟩, .string ⟨#[37]⟩] 9)) (w.heap.size + 1) [[42], [47], [37]]) := kH (HSZ.out ▸ ⟨by simp, fun j hj => by
  have hj2 : j < 3 := hj
  rcases j with _ | _ | _ | j
  ·
   simp [go_sem, bs]
  ·
   simp [go_sem, bs]
  ·
   simp [go_sem, bs]
  ·
   omega⟩)
 simp only [List.length_cons, List.length_nil, Nat.reduceAdd] at CC
 have HGK : Hid (w.heap.size + 1 ≠ K.b) := kH (by have := HK.out; omega)
 have HN := kH (HN.out.alloc (.cells #[.string ⟨#[42]⟩, .string ⟨#[47]⟩, .string ⟨#[37]⟩] 9))
 have H0 := kH (H0.out.alloc (.cells #[.string ⟨#[42]⟩, .string ⟨#[47]⟩, .string ⟨#[37]⟩] 9))
 have HLT := kH HN.out.lt
 refine (CC.out (w.heap.size + 1) 3 _ H0.out.st HSG.out HGK.out).mono ?_
 rintro e w1 ⟨t2, n2, l2, er2, rfl, r1, m1, tr2⟩
 have HN := kH (HN.out.onl m1.2 HNZ.out)
 have HR1 := kH r1
 have HT2 := kH (tr2.low (B1 := w.heap.size + 1) (by have := HLT.out; omega))
 have H1 := kH (H0.out.trans m1)
 clear m1 r1 tr2
 unfold An.val
 obtain ⟨z0, z1, z2, z3, zk0, zk1, zk2, zk3⟩ := HN.out.cells
 go_wp2_with fail
 exact bodyPost_ret (v := An.val n2) (by simp [results, Tryz.results118, go_sem, An.val, z0, z1, z2, z3]) rfl (NdPost.put (n := n2) (HR1.out) H1.out (HT2.out) HK.out)
theorem cf_psum_any : ∀ xs w, (callFunc 118 xs).run Tryz.prog w = .ok (.enter 118 xs) w := fun _ _ => by kernel_rfl
set_option maxHeartbeats 8000000 in
set_option maxRecDepth 100000 in
theorem psum_any {reOk : List UInt8 → Bool} {K : Ps} {m : Nat} (HRe : ReOk reOk) (IE : OkE reOk K m 59 fun R pr => R.E pr) (IP : OkN reOk K m 124 fun R _ => primP reOk R) (IU : OkN reOk K m 119 fun R _ => unaryP reOk R) (dp : Nat) (pr : Bool) (l : List Tok) (er : ErO) (w : World) (hd : DpOk dp l) (hl : l.length ≤ m) (h : Pst w K l dp pr er) :
  Calls Tryz.prog 115 #[.pointer (some ⟨K.b, 0, none⟩)] w (NdPost K w w.heap.size l (sumP reOk (rcP reOk (50 - dp)) l) dp pr er) := by
 have CC := kH fun gs cs W hW hg hgs => pchain_any (K := K) (f := 118) (G := productP reOk (rcP reOk (50 - dp))) (dp := dp) (pr := pr) (l := l) cf_psum_any (fun l1 er1 W1 hs h1 => pproduct_any HRe IE IP IU dp pr l1 er1 W1 (hd.suf hs h1.ne) (Nat.le_trans hs.length_le hl) h1) [[43], [45]] (by decide) (by decide) gs cs er W hW hg hgs
 have HK : Hid (K.b < w.heap.size ∧ K.g < w.heap.size) := kH ⟨h.lt, h.glt⟩
 have HNZ : Hid (w.heap.size ≠ K.b) := kH (by have := HK.out; omega)
 have HN := kH (BlkA.new0 w)
 have H0 := kH ((Mv.refl h).alloc zN)
 have HSZ : Hid (w.heap.size + 1 = (w.alloc zN).heap.size) := kH (by simp)
 clear HRe IE IP IU hd hl h
 go_enter Tryz.func115, Tryz.ntmps115
 go_wp2_with fail
 generalize w.alloc zN = w0 at *
 have HSG : Hid (SgAt (w0.alloc (.cells #[.string ⟨#[43]⟩, .string ⟨#[45]⟩] 9)) (w.heap.size + 1) [[43], [45]]) := kH (HSZ.out ▸ ⟨by simp, fun j hj => by
  have hj2 : j < 2 := hj
  rcases j with _ | _ | j
  ·
   simp [go_sem, bs]
  ·
   simp [go_sem, bs]
  ·
   omega⟩)
 simp only [List.length_cons, List.length_nil, Nat.reduceAdd] at CC
 have HGK : Hid (w.heap.size + 1 ≠ K.b) := kH (by have := HK.out; omega)
 have HN := kH (HN.out.alloc (.cells #[.string ⟨#[43]⟩, .string ⟨#[45]⟩] 9))
 have H0 := kH (H0.out.alloc (.cells #[.string ⟨#[43]⟩, .string ⟨#[45]⟩] 9))
 have HLT := kH HN.out.lt
 refine (CC.out (w.heap.size + 1) 2 _ H0.out.st HSG.out HGK.out).mono ?_
 rintro e w1 ⟨t2, n2, l2, er2, rfl, r1, m1, tr2⟩
 have HN := kH (HN.out.onl m1.2 HNZ.out)
 have HR1 := kH r1
 have HT2 := kH (tr2.low (B1 := w.heap.size + 1) (by have := HLT.out; omega))
 have H1 := kH (H0.out.trans m1)
 clear m1 r1 tr2
 unfold An.val
 obtain ⟨z0, z1, z2, z3, zk0, zk1, zk2, zk3⟩ := HN.out.cells
 go_wp2_with fail
 exact bodyPost_ret (v := An.val n2) (by simp [results, Tryz.results115, go_sem, An.val, z0, z1, z2, z3]) rfl (NdPost.put (n := n2) (HR1.out) H1.out (HT2.out) HK.out)
theorem Res.less {α : Type} {X : TR α} {l l2 : List Tok} {er er2 : ErO} {a : α} (h : Res X l er a l2 er2) (hg : GoodAt true X l) (hl : 2 ≤ l.length) : l2.length < l.length := by
 rcases h.alt with ⟨h1, _⟩ | ⟨e, _, _, h2⟩
 ·
  rw [h1] at hg
  exact hg.2.2 rfl
 ·
  omega
theorem valueB_k {l : List Tok} (h : valueB l = true) : (tk l).k ≠ 0 := by
 unfold valueB at h
 rw [Bool.or_eq_true, Bool.or_eq_true, decide_eq_true_iff, decide_eq_true_iff, decide_eq_true_iff] at h
 rcases h with (h | h) | h
 ·
  omega
 ·
  exact fx_kind h (by simp)
 ·
  exact fx_kind h (by simp)
/-- Where a loop that gathers a node stands. -/
structure LpSt (K : Ps) (w : World) (gN : Nat) (C : Nat → List Tok → PT → TR PT) (X : TR PT) (l : List Tok) (dp : Nat) (pr : Bool) (er : ErO) (gk : Nat) (wr : World) : Prop where
 ex : ∃ t n l1 er1 k, l1 <:+ l ∧ l1.length ≤ gk ∧ l1.length < k ∧ Mv K w l1 dp pr er1 wr ∧ BlkA wr w.heap.size An.zero ∧ BlkA wr gN n ∧ TreeP wr (fun i => w.heap.size + 1 ≤ i ∧ i ≠ gN) t n ∧ (∀ a l2 er2, Res (C k l1 t) l1 er1 a l2 er2 → Res X l er a l2 er2)
set_option maxHeartbeats 8000000 in
set_option maxRecDepth 100000 in
theorem pside_any {reOk : List UInt8 → Bool} {K : Ps} {m : Nat} (HRe : ReOk reOk) (IE : OkE reOk K m 59 fun R pr => R.E pr) (IP : OkN reOk K m 124 fun R _ => primP reOk R) (IU : OkN reOk K m 119 fun R _ => unaryP reOk R) (dp : Nat) (pr : Bool) (l : List Tok) (er : ErO) (w : World) (hd : DpOk dp l) (hl : l.length ≤ m) (h : Pst w K l dp pr er) :
  Calls Tryz.prog 109 #[.pointer (some ⟨K.b, 0, none⟩)] w (NdPost K w w.heap.size l (sideP reOk (rcP reOk (50 - dp)) l) dp pr er) := by
 have CE := kH fun W hW => psum_any HRe IE IP IU dp pr l er W hd hl hW
 have CG := kH fun l1 er1 W (hs : l1 <:+ l) hW => psum_any HRe IE IP IU dp pr l1 er1 W (hd.suf hs (Pst.ne hW)) (Nat.le_trans hs.length_le hl) hW
 have CV := kH fun l1 er1 => pvalc_any K l1 dp pr er1
 have CM := kH fun o p n c W => pnode_any o p n c W
 have HK : Hid (K.b < w.heap.size ∧ K.g < w.heap.size) := kH ⟨h.lt, h.glt⟩
 have HNZ : Hid (w.heap.size ≠ K.b) := kH (by have := HK.out; omega)
 have HN := kH (BlkA.new0 w)
 have H0 := kH ((Mv.refl h).alloc zN)
 have HSZ : Hid (w.heap.size + 1 = (w.alloc zN).heap.size) := kH (by simp)
 clear HRe IE IP IU hd hl h
 go_enter Tryz.func109, Tryz.ntmps109
 go_wp2_with fail
 generalize w.alloc zN = w0 at *
 have HLT := kH HN.out.lt
 refine (CE.out _ H0.out.st).mono ?_
 rintro e w1 ⟨t1, n1, l1, er1, rfl, r1, m1, tr1⟩
 have HN := kH (HN.out.onl m1.2 HNZ.out)
 have HR1 := kH r1
 have HT1 := kH (tr1.low (B1 := w.heap.size + 1) (by have := HLT.out; omega))
 have HS1 := kH m1.2.size
 have H1 := kH (H0.out.trans m1)
 clear m1 r1 tr1
 unfold An.val
 have HTN : Hid (TreeP w1 (fun i => w.heap.size + 1 ≤ i ∧ i ≠ w1.heap.size) t1 n1) := kH (HT1.out.kept' (fun _ _ _ => rfl) (fun k hk hl => ⟨hk, by omega⟩))
 have HBHV : Hid (w1.heap.size ≠ K.b) := kH (by have := H1.out.st.lt; omega)
 have HN := kH (HN.out.alloc (nB n1))
 have HTN := kH (HTN.out.below ((Below.refl _ _).alloc (Nat.le_refl _) (nB n1)))
 have HV := kH (BlkA.new w1 n1)
 have H1 := kH (H1.out.alloc (nB n1))
 go_wp2_with fail
 have HI : Hid (LpSt K w w1.heap.size (fun k l1 t => sideL reOk (rcP reOk (50 - dp)) k l1 t) (sideP reOk (rcP reOk (50 - dp)) l) l dp pr er l.length (w1.alloc (nB n1))) := kH ⟨t1, n1, l1, er1, l1.length + 1, HR1.out.suf, HR1.out.suf.length_le, by omega, H1.out, HN.out, HV.out, HTN.out, fun a l2 er2 k => HR1.out.bnd k⟩
 have HGN : Hid (w.heap.size < w1.heap.size) := kH (by have := HS1.out; have := HLT.out; omega)
 clear H1 HR1 HN HV HTN HT1 CE H0 HLT HBHV HS1
 generalize w1.alloc (nB n1) = wa at *
 generalize w1.heap.size = gN at *
 have HGK : Hid (gN ≠ K.b ∧ gN ≠ K.g) := kH (by have := HK.out; have := HGN.out; omega)
 go_loopg [] l.length (fun gk wr => Hid (LpSt K w gN (fun k l1 t => sideL reOk (rcP reOk (50 - dp)) k l1 t) (sideP reOk (rcP reOk (50 - dp)) l) l dp pr er gk wr))
 case atStart => exact HI
 case round =>
  clear HI
  obtain ⟨t, n, l1, er1, k, hsf, hgk, hk, hmv, hz, hn, ht, hres⟩ := hrel.out.ex
  have HN := kH hz
  have HV := kH hn
  have HTN := kH ht
  have HBHV : Hid (gN ≠ K.b) := kH HGK.out.1
  have H1 := kH hmv
  have CV := kH (CV.out l1 er1)
  by_cases hc : valueB l1 = true
  ·
   have hk0 := valueB_k hc
   have hgood := good_sum reOk (good_rc reOk (50 - dp)) l1 hmv.st.tll
   have h2l := two_of hmv.st.tll hk0
   have HSF := kH hsf
   have HRS : Hid (∀ u l2 er2, Res (sumP reOk (rcP reOk (50 - dp)) l1) l1 er1 u l2 er2 → l2 <:+ l ∧ l2.length ≤ gk - 1 ∧ gk - 1 < gk ∧ l2.length < k - 1 ∧ ∀ a l3 er3, Res (sideL reOk (rcP reOk (50 - dp)) (k - 1) l2 (nd [99, 97, 116] [t, u])) l2 er2 a l3 er3 → Res (sideP reOk (rcP reOk (50 - dp)) l) l er a l3 er3) := kH (by
    intro u l2 er2 hr
    have h3 := hr.less hgood h2l
    refine ⟨hr.suf.trans hsf, by omega, by omega, by omega, fun a l3 er3 h4 => hres a l3 er3 ?_⟩
    obtain ⟨k, rfl⟩ : ∃ j, k = j + 1 := ⟨k - 1, by omega⟩
    unfold sideL
    rw [if_pos hc]
    exact hr.bnd h4)
   rw [hc] at CV
   clear hc hsf hgk hk hmv hz hn ht hres hrel hk0 hgood h2l
   go_wp2_with fail
   refine (CV.out _ H1.out.st).mono ?_
   rintro e w2 ⟨rfl, m2⟩
   have HN := kH (HN.out.onl m2.2 HNZ.out)
   have HV := kH (HV.out.onl m2.2 HBHV.out)
   have HTN := kH (HTN.out.kept' (fun k hk hl => m2.2.block k hl (by have := HK.out; have := hk.1; omega)) (fun _ h _ => h))
   have H2 := kH (H1.out.trans m2)
   clear m2
   go_wp2_with fail
   have HN := kH (HN.out.drew)
   have HV := kH (HV.out.drew)
   have HTN := kH (HTN.out.drew)
   have H2 := kH H2.out.drew
   refine wp_region_L (st := [5]) (S := fun Z => BlkA Z gN n) (by kernel_rfl) (HV.out) (fun hHeld => ?_)
   generalize w2.drew = wd2 at *
   refine tkL 0 (v := ?_) rfl ?_ ?_
   rotate_left
   ·
    (intro w hSw; obtain ⟨d0, d1, d2, d3, dk0, dk1, dk2, dk3⟩ := BlkA.cells hSw; go_simp; try with_reducible rfl)
   try simp only [nrm]
   refine tkL 1 (v := ?_) rfl ?_ ?_
   rotate_left
   ·
    (intro w hSw; obtain ⟨d0, d1, d2, d3, dk0, dk1, dk2, dk3⟩ := BlkA.cells hSw; go_simp; try with_reducible rfl)
   try simp only [nrm]
   refine rdL 2 rfl (fun K2 hK => ?_)
   go_simp
   have HLT := kH HN.out.lt
   have HLTV := kH HV.out.lt
   refine (CG.out l1 er1 _ HSF.out H2.out.st).mono ?_
   rintro e w3 ⟨u, m, l5, er5, rfl, r3, m3, tu⟩
   have HN := kH (HN.out.onl m3.2 HNZ.out)
   have HV := kH (HV.out.onl m3.2 HBHV.out)
   have HTN := kH (HTN.out.kept' (fun k hk hl => m3.2.block k hl (by have := HK.out; have := hk.1; omega)) (fun _ h _ => h))
   have HR3 := kH r3
   have HRR := kH (HRS.out _ _ _ r3)
   have HU := kH (tu.kept' (B' := fun i => w.heap.size + 1 ≤ i ∧ i ≠ gN) (fun _ _ _ => rfl) (fun k hk _ => by have := HLT.out; have := HLTV.out; omega))
   have H3 := kH (H2.out.trans m3)
   clear m3 r3 tu
   unfold An.val
   refine hK.out _ _ (HV.out) (fun hHeld => ?_)
   clear hK K2
   try simp only [nrm]
   have HTW := kH (TreeP.two (w := w3) HTN.out HU.out (by have := HV.out.lt; have := HN.out.lt; omega) [99, 97, 116])
   refine rdL 3 rfl (fun K2 hK => ?_)
   go_simp
   have HN := kH (HN.out.alloc (nB2 n m))
   have HV := kH (HV.out.alloc (nB2 n m))
   have H3 := kH (H3.out.alloc (nB2 n m))
   refine hK.out _ _ (HV.out) (fun hHeld => ?_)
   clear hK K2
   try simp only [nrm]
   refine rdL 4 rfl (fun K2 hK => ?_)
   go_simp
   refine (CM.out _ _ _ _ _).mono ?_
   rintro e w4 ⟨rfl, hb4⟩
   have HN := kH (HN.out.below hb4)
   have HV := kH (HV.out.below hb4)
   have HTW := kH (HTW.out.below hb4)
   have H4 := kH (H3.out.below hb4)
   clear hb4
   unfold An.val
   refine hK.out _ _ (HV.out) (fun hHeld => ?_)
   clear hK K2
   try simp only
   refine wpAnyL_ready (rs := [5]) (by kernel_rfl) (by simp) ?_
   refine AllReadyL.store (o := _) rfl (by decide) (by decide) (fun K2 hK => ?_) AllReadyL.nil
   obtain ⟨z0, z1, z2, z3, zk0, zk1, zk2, zk3⟩ := HV.out.cells
   go_simp
   refine hK.out _ _ ?_
   clear hK K2
   try simp only [nrm]
   refine wpAnyL_done (by kernel_rfl) ?_ _
   go_wp2_with fail
   go_roundg (gk - 1)
   case measure => exact HRR.out.2.2.1
   case rel =>
    have hput : ∀ k, k ≠ gN → (putA w4 gN ⟨bs [99, 97, 116], ⟨#[]⟩, 0, some ⟨w3.heap.size, 0, none⟩, 2, 2⟩).heap[k]? = w4.heap[k]? := fun k hk => putA_block hk _
    show Hid (LpSt K w gN (fun k l1 t => sideL reOk (rcP reOk (50 - dp)) k l1 t) (sideP reOk (rcP reOk (50 - dp)) l) l dp pr er (gk - 1) (putA w4 gN ⟨bs [99, 97, 116], ⟨#[]⟩, 0, some ⟨w3.heap.size, 0, none⟩, 2, 2⟩))
    refine kH ⟨nd [99, 97, 116] [t, u], ⟨bs [99, 97, 116], ⟨#[]⟩, 0, some ⟨w3.heap.size, 0, none⟩, 2, 2⟩, l5, er5, k - 1, HRR.out.1, HRR.out.2.1, HRR.out.2.2.2.1, Mv.putA H4.out (Nat.le_of_lt HGN.out) HK.out _, (hput _ (by have := HGN.out; omega)).trans HN.out, BlkA.putA HV.out _, HTW.out.kept' (fun k hk _ => hput k hk.2) (fun _ h _ => h), HRR.out.2.2.2.2⟩
  ·
   have HX : Hid (Res (sideP reOk (rcP reOk (50 - dp)) l) l er t l1 er1) := kH (hres _ _ _ (by
    obtain ⟨k, rfl⟩ : ∃ j, k = j + 1 := ⟨k - 1, by omega⟩
    unfold sideL
    rw [if_neg hc]
    exact Res.ret hmv.st.ne))
   rw [show valueB l1 = false from by simpa using hc] at CV
   clear hc hsf hgk hk hmv hz hn ht hres hrel
   go_wp2_with fail
   refine (CV.out _ H1.out.st).mono ?_
   rintro e w2 ⟨rfl, m2⟩
   have HN := kH (HN.out.onl m2.2 HNZ.out)
   have HV := kH (HV.out.onl m2.2 HBHV.out)
   have HTN := kH (HTN.out.kept' (fun k hk hl => m2.2.block k hl (by have := HK.out; have := hk.1; omega)) (fun _ h _ => h))
   have H2 := kH (H1.out.trans m2)
   clear m2
   obtain ⟨v0, v1, v2, v3, vk0, vk1, vk2, vk3⟩ := HV.out.cells
   obtain ⟨z0, z1, z2, z3, zk0, zk1, zk2, zk3⟩ := HN.out.cells
   go_wp2_with fail
   exact bodyPost_ret (v := An.val n) (by simp [results, Tryz.results109, go_sem, An.val, z0, z1, z2, z3]) rfl (NdPost.put (n := n) (HX.out) H2.out (HTN.out.kept' (fun _ _ _ => rfl) (fun _ hk _ => hk.1)) HK.out)
end Go.Proofs.YtmbfdkiejneheaaGreatDoor
