/-
 CONTRACTS of layer 13's element, pattern, builtin.
-/
import Derived.Test.YtmbfdkiejneheaaGreatDoorOrd
import Derived.Maps.AppendAt
import Derived.Test.YtmbfdkiejneheaaGreatDoorRgP
import Derived.OwnWalk
namespace Go.Proofs.YtmbfdkiejneheaaGreatDoor
open Go.RowKit

/-- Levels that are no more than may be; one more is begun only behind an error. -/
def DpOk (dp : Nat) (l : List Tok) : Prop := dp ≤ 50 ∨ (dp ≤ 52 ∧ l.length = 1)
/-- A function of the reader that reads a node, of fewer tokens than m. -/
def OkN (reOk : List UInt8 → Bool) (K : Ps) (m : Nat) (f : FuncId) (S : Rc → Bool → List Tok → TR PT) : Prop :=
 ∀ dp pr l er W, DpOk dp l → l.length < m → Pst W K l dp pr er → Calls Tryz.prog f #[.pointer (some ⟨K.b, 0, none⟩)] W (NdPost K W W.heap.size l (S (rcP reOk (50 - dp)) pr l) dp pr er)
/-- The same of one that begins a level. -/
def OkE (reOk : List UInt8 → Bool) (K : Ps) (m : Nat) (f : FuncId) (S : Rc → Bool → List Tok → TR PT) : Prop :=
 ∀ dp pr l er W, dp ≤ 50 → l.length < m → Pst W K l dp pr er → Calls Tryz.prog f #[.pointer (some ⟨K.b, 0, none⟩)] W (NdPost K W W.heap.size l (S (rcP reOk (50 - dp)) pr l) dp pr er)
/-- The same of one that reads a row. -/
def OkR (reOk : List UInt8 → Bool) (K : Ps) (m : Nat) (f : FuncId) (S : Rc → Bool → List Tok → TR (List PT)) : Prop :=
 ∀ dp pr l er W, dp ≤ 50 → l.length < m → Pst W K l dp pr er → Calls Tryz.prog f #[.pointer (some ⟨K.b, 0, none⟩)] W (RwPost K W l (S (rcP reOk (50 - dp)) pr l) dp pr er)
def singleP (f : List Tok → TR PT) (l : List Tok) : TR (List PT) := bnd (f l) fun t l2 => .ok ([t], l2)
theorem Tryz.infoAst : (Tryz.prog.info? 25).map (fun i => (i.zero, i.size, i.bytes)) = some (some (.agg #[.string ⟨#[]⟩, .string ⟨#[]⟩, .int .i64 0, .slice none 0 0]), 4, 64) := by kernel_rfl
/-- A row of one node in a new block. -/
theorem RwA.new1 {w : World} {t : PT} {n : An} {B0 : Nat} (h : TreeP w (fun k => B0 ≤ k) t n) (hb : B0 ≤ w.heap.size) :
  RwA (w.alloc (nB n)) B0 [t] [n] (.slice (some ⟨w.heap.size, 0, none⟩) 1 1) := by
 refine ⟨World.ownsRow_lit (base := B0) (e := 25) (size := 4) w #[.string n.op, .string n.tx, .int .i64 n.pl, .slice n.kp n.kn n.kc] 1 hb (by decide) rfl, ?_⟩
 refine TreesP.one (h.kept' (fun k _ hl => Below.heap_alloc _ _ _ hl) (fun k hk hl => ⟨hk, fun e => ?_⟩))
 simp [Value.ownBlock] at e
 omega
set_option maxHeartbeats 4000000 in
set_option maxRecDepth 100000 in
theorem psingle_any {reOk : List UInt8 → Bool} {K : Ps} {m : Nat} (IE : OkE reOk K m 59 fun R pr => R.E pr) : OkR reOk K m 67 fun R pr => singleP (R.E pr) := by
 intro dp pr l er w hd hl h
 have CE := kH (IE dp pr l er w hd hl h)
 have HP := kH h.pos
 clear IE h hd hl
 go_enter Tryz.func67, Tryz.ntmps67
 go_wp2_with fail
 refine CE.out.mono ?_
 rintro e w1 ⟨t1, n1, l1, er1, rfl, r1, m1, tr1⟩
 have H1 := kH m1
 have HR1 := kH r1
 have HT1 := kH tr1
 clear m1 r1 tr1
 unfold An.val
 go_wp2_with fail
 go_ret
 refine ⟨[t1], [n1], some ⟨w1.heap.size, 0, none⟩, 1, l1, er1, rfl, HR1.out.bnd (Res.ret HR1.out.ne), H1.out.alloc _, RwA.new1 HT1.out H1.out.2.size, ?_⟩
 exact HP.out.1
theorem Mv.app {K : Ps} {w w8 w9 : World} {l : List Tok} {dp : Nat} {pr : Bool} {er : ErO} {lit : Obj} {v : Value} (h : Mv K w l dp pr er w8) (hK : K.b < w.heap.size ∧ K.g < w.heap.size) (hv : ∀ g, v.ownBlock = some g → w.heap.size ≤ g) (hg : (w8.alloc lit).grownBy w9 v.ownBlock) : Mv K w l dp pr er w9 := by
 have hal : (w8.alloc lit).heap.size = w8.heap.size + 1 := by simp
 have hsz := h.2.size
 have hk : ∀ k, k < w8.heap.size → k < w.heap.size → w9.heap[k]? = w8.heap[k]? := fun k hk hlt =>
  (grown_at hg (by omega) (fun e => by have := hv k e; omega)).trans (Below.heap_alloc w8 lit k hk)
 refine ⟨h.1.kept fun k hk1 he => hk k hk1 (by rcases he with rfl | rfl; exact hK.1; exact hK.2), hg.os.trans h.2.os, hg.tape.trans h.2.tape, hg.output.trans h.2.output, by have := hg.size; omega, fun k hk1 hne => (hk k (by omega) hk1).trans (h.2.block k hk1 hne)⟩
/-- A row that was appended to. -/
theorem RwA.app {w8 w9 : World} {n0 B1 : Nat} {ts : List PT} {ns : List An} {v v' : Value} {t : PT} {n : An} {lit : Obj} (hr : RwA w8 n0 ts ns v) (ht : TreeP w8 (fun k => B1 ≤ k) t n) (hv : ∀ g, v.ownBlock = some g → g < B1) (hb : n0 ≤ B1)
  (hg : (w8.alloc lit).grownBy w9 v.ownBlock) (hat : v'.ownBlock = v.ownBlock ∨ v'.ownBlock = some (w8.heap.size + 1)) (own : w9.ownsRow n0 25 4 v' (ns.length + 1) (anRow ns ++ n.vals)) :
  RwA w9 n0 (ts ++ [t]) (ns ++ [n]) v' := by
 have hal : (w8.alloc lit).heap.size = w8.heap.size + 1 := by simp
 have h89 : ∀ k, k < w8.heap.size → v.ownBlock ≠ some k → w9.heap[k]? = w8.heap[k]? := fun k hk h => (grown_at hg (by omega) h).trans (Below.heap_alloc w8 lit k hk)
 have hv' : ∀ k, k < w8.heap.size → v.ownBlock ≠ some k → v'.ownBlock ≠ some k := fun k hk h e => by
  rcases hat with h2 | h2
  ·
   exact h (h2 ▸ e)
  ·
   rw [h2] at e
   have := Option.some.inj e
   omega
 have hnv : ∀ k, B1 ≤ k → v.ownBlock ≠ some k := fun k hk e => by have := hv k e; omega
 refine ⟨?_, TreesP.snoc (ht.kept' (fun k hk hl => h89 k hl (hnv k hk)) (fun k hk hl => ⟨by omega, hv' k hl (hnv k hk)⟩)) (TreesP.kept (fun k hk hl => h89 k hl hk.2) (fun k hk hl => ⟨hk.1, hv' k hl hk.2⟩) ts ns hr.tr)⟩
 rw [anRow_append, List.length_append, anRow_one]
 exact own
theorem an_new (w : World) (n : An) : ∀ (j : Nat) (u : Value), n.vals[j]? = some u → (w.alloc (nB n)).cell? (Addr.add ⟨w.heap.size, 0, none⟩ j) = some u := by
 intro j u hj
 match j, hj with
 | 0, hj => simp [An.vals] at hj; subst hj; simp [Addr.add, go_sem]
 | 1, hj => simp [An.vals] at hj; subst hj; simp [Addr.add, go_sem]
 | 2, hj => simp [An.vals] at hj; subst hj; simp [Addr.add, go_sem]
 | 3, hj => simp [An.vals] at hj; subst hj; simp [Addr.add, go_sem]
 | n + 4, hj => simp [An.vals] at hj
/-- Where a row's loop stands: whatever the document reads behind what there is so far is what it reads in all. -/
structure RowSt (K : Ps) (w : World) (G : List Tok → TR PT) (X : TR (List PT)) (l : List Tok) (dp : Nat) (pr : Bool) (er : ErO) (gk : Nat) (ns : List An) (v : Value) (wr : World) : Prop where
 ex : ∃ ts l1 er1 k, l1 <:+ l ∧ l1.length ≤ gk ∧ l1.length < k ∧ Mv K w l1 dp pr er1 wr ∧ RwA wr w.heap.size ts ns v ∧ ns.length + l1.length ≤ l.length + 1 ∧ (∀ a l2 er2, Res (rowP G k l1 ts) l1 er1 a l2 er2 → Res X l er a l2 er2)
set_option maxHeartbeats 8000000 in
set_option maxRecDepth 100000 in
theorem prow_any {K : Ps} {f : FuncId} {G : List Tok → TR PT} {dp : Nat} {pr : Bool} {l : List Tok} (hcf : ∀ xs w, (callFunc f xs).run Tryz.prog w = .ok (.enter f xs) w)
  (CG : ∀ l1 er W, l1 <:+ l → Pst W K l1 dp pr er → Calls Tryz.prog f #[.pointer (some ⟨K.b, 0, none⟩)] W (NdPost K W W.heap.size l1 (G l1) dp pr er)) (er : ErO) (w : World) (h : Pst w K l dp pr er) :
  Calls Tryz.prog 73 #[.pointer (some ⟨K.b, 0, none⟩), .func (.func f) #[.pointer (some ⟨K.b, 0, none⟩)] #[]] w (RwPost K w l (row1 G l) dp pr er) := by
 have CE := kH (CG l er w (List.suffix_refl _) h)
 have CG := kH CG
 have CT := kH fun l1 er1 => ptake_any K l1 dp pr er1 [44]
 have CL := kH fun l1 er1 => pnls_any K l1 dp pr er1
 have HP := kH h.pos
 have HK : Hid (K.b < w.heap.size ∧ K.g < w.heap.size) := kH ⟨h.lt, h.glt⟩
 obtain ⟨i0, hi, hz0, hz1, hz2⟩ := info_parts Tryz.infoAst
 clear h
 go_enter Tryz.func73, Tryz.ntmps73
 go_wp2_with fail
 refine CE.out.mono ?_
 rintro e w1 ⟨t1, n1, l1, er1, rfl, r1, m1, tr1⟩
 have H1 := kH m1
 have HR1 := kH r1
 have HT1 := kH tr1
 clear m1 r1 tr1
 unfold An.val
 go_wp2_with fail
 have H0 : Hid (RowSt K w G (row1 G l) l dp pr er l.length [n1] (.slice (some ⟨w1.heap.size, 0, none⟩) 1 1) (w1.alloc (nB n1))) := kH ⟨[t1], l1, er1, l1.length + 1, HR1.out.suf, HR1.out.suf.length_le, by omega, H1.out.alloc _, RwA.new1 HT1.out H1.out.2.size, by have := HR1.out.suf.length_le; simp; omega, fun a l2 er2 k => HR1.out.bnd k⟩
 clear H1 HR1 HT1 CE
 generalize w1.alloc (nB n1) = wa at *
 generalize w1.heap.size = ga at *
 go_loopg [5] l.length (fun gk v3 wr => ∃ (p : Option Addr) (c : Nat) (ns : List An), v3 = .slice p ns.length c ∧ Hid (RowSt K w G (row1 G l) l dp pr er gk ns (.slice p ns.length c) wr))
 case atStart => exact ⟨some ⟨ga, 0, none⟩, 1, [n1], rfl, H0⟩
 case round =>
  clear H0
  obtain ⟨p, c, ns, rfl, HS⟩ := hrel
  obtain ⟨ts, l1, er1, k, hsf, hgk, hk, hmv, hrw, hcnt, hres⟩ := HS.out.ex
  have CT := kH (CT.out l1 er1)
  by_cases hc : fx l1 = [44]
  ·
   rw [if_pos hc, decide_eq_true hc] at CT
   have hn := hmv.st.tll.nx
   have hlt := hn.2.2.2 (fx_kind hc (by simp))
   have hnn := hn.2.2.1.nls
   have hnl := hnn.1.length_le
   have CL := kH (CL.out (nx l1) er1)
   have HLN := kH (show nlsP (nx l1) <:+ l from (hnn.1.trans hn.1).trans hsf)
   have HX : Hid (∀ t l2 er2, Res (G (nlsP (nx l1))) (nlsP (nx l1)) er1 t l2 er2 → l2 <:+ l ∧ l2.length ≤ gk - 1 ∧ gk - 1 < gk ∧ l2.length < k - 1 ∧ ns.length + 1 + l2.length ≤ l.length + 1 ∧ ∀ a l3 er3, Res (rowP G (k - 1) l2 (ts ++ [t])) l2 er2 a l3 er3 → Res (row1 G l) l er a l3 er3) := kH (by
    intro t l2 er2 hr
    have h1 := hr.suf.length_le
    refine ⟨hr.suf.trans ((hnn.1.trans hn.1).trans hsf), by omega, by omega, by omega, by omega, fun a l3 er3 h3 => hres a l3 er3 ?_⟩
    obtain ⟨k, rfl⟩ : ∃ j, k = j + 1 := ⟨k - 1, by omega⟩
    unfold rowP
    rw [if_pos hc]
    exact (hr.bnd h3).pre (hnn.1.trans hn.1))
   have HM := kH hmv
   have HRW := kH hrw
   have HNS := kH (show ns.length ≤ 6000 from by have := HP.out; omega)
   clear hc hsf hgk hk hmv hrw hcnt hres hn hlt hnn hnl HS
   go_wp2_with fail
   refine (CT.out _ HM.out.st).mono ?_
   rintro e w1 ⟨rfl, m1⟩
   have H1 := kH (HM.out.trans m1)
   have HRW1 := kH (HRW.out.onl m1.2 HK.out.1)
   clear m1
   go_wp2_with fail
   refine (CL.out _ H1.out.st).mono ?_
   rintro e w2 ⟨rfl, m2⟩
   have H2 := kH (H1.out.trans m2)
   have HRW2 := kH (HRW1.out.onl m2.2 HK.out.1)
   clear m2
   go_wp2_with fail
   refine (CG.out _ er1 _ HLN.out H2.out.st).mono ?_
   rintro e w8 ⟨t, n, l2, er2, rfl, r2, m8, tr8⟩
   have HV : Hid (∀ g, (Value.slice p ns.length c).ownBlock = some g → w.heap.size ≤ g ∧ g < w2.heap.size) := kH (rg_own_base HRW2.out.own)
   have H8 := kH (H2.out.trans m8)
   have HRW8 := kH (HRW2.out.onl m8.2 HK.out.1)
   have HX2 := kH (HX.out _ _ _ r2)
   have HT8 := kH tr8
   have HW2 := kH H2.out.2.size
   clear r2 m8 tr8
   unfold An.val
   go_wp2_with (at_builtin; refine wpList_append_own_at _ rfl (.tmp 13) (.tmp 16) 23 rfl w.heap.size 25 i0 (.agg #[.string ⟨#[]⟩, .string ⟨#[]⟩, .int .i64 0, .slice none 0 0]) 4 64 Tryz.underlying23 hi hz0 hz1 hz2 rfl (by decide) (.slice p ns.length c) ns.length (anRow ns) rfl (HRW8.out.own.alloc _) ⟨w8.heap.size, 0, none⟩ 1 1 (An.vals n) rfl rfl ?c1 ?c2 ?c3 ?c4 ?c5 ?_)
   case c1 => exact an_new w8 n
   case c2 => simp [An.vals, Value.oneCell']
   case c3 => have := HNS.out; unfold maxLen; omega
   case c4 => have := HNS.out; omega
   case c5 => have := H8.out.2.size; simp; omega
   intro v9 w9 hown9 hgrow9 _ hat9
   obtain ⟨g9, c9, rfl, hc9⟩ := rg_own_succ hown9
   have hA := RwA.app HRW8.out HT8.out (fun g hg => (HV.out g hg).2) HW2.out hgrow9 hat9 hown9
   have hM := Mv.app H8.out HK.out (fun g hg => (HV.out g hg).1) hgrow9
   have HP9 := kH (And.intro hA hM)
   clear hA hM hown9 hgrow9 hat9
   go_wp2_with fail
   go_roundg (gk - 1)
   case measure => exact HX2.out.2.2.1
   case rel =>
    have hl9 : (ns ++ [n]).length = ns.length + 1 := by simp
    refine ⟨some ⟨g9, 0, none⟩, c9, ns ++ [n], by rw [hl9], kH ?_⟩
    have h9 := HP9.out
    rw [← hl9] at h9
    exact ⟨ts ++ [t], l2, er2, k - 1, HX2.out.1, HX2.out.2.1, HX2.out.2.2.2.1, h9.2, h9.1, by rw [hl9]; exact HX2.out.2.2.2.2.1, HX2.out.2.2.2.2.2⟩
  ·
   rw [if_neg hc, decide_eq_false hc] at CT
   have HX : Hid (Res (row1 G l) l er ts l1 er1 ∧ ns.length ≤ l.length) := kH (by
    have h1 := List.length_pos_iff.2 hmv.st.ne
    refine ⟨hres _ _ _ ?_, by omega⟩
    obtain ⟨k, rfl⟩ : ∃ j, k = j + 1 := ⟨k - 1, by omega⟩
    unfold rowP
    rw [if_neg hc]
    exact Res.ret hmv.st.ne)
   have HM := kH hmv
   have HRW := kH hrw
   clear hc hsf hgk hk hmv hrw hcnt hres HS
   go_wp2_with fail
   refine (CT.out _ HM.out.st).mono ?_
   rintro e w1 ⟨rfl, m1⟩
   have H1 := kH (HM.out.trans m1)
   have HRW1 := kH (HRW.out.onl m1.2 HK.out.1)
   clear m1
   go_wp2_with fail
   go_ret
   exact ⟨ts, ns, p, c, l1, er1, rfl, HX.out.1, H1.out, HRW1.out, HX.out.2⟩
set_option maxHeartbeats 8000000 in
set_option maxRecDepth 100000 in
theorem pwithin_any {K : Ps} {m : Nat} {f : FuncId} {G : List Tok → TR (List PT)} {dp : Nat} (hcf : ∀ xs w, (callFunc f xs).run Tryz.prog w = .ok (.enter f xs) w)
  {l : List Tok} (CG : ∀ l1 er W, l1 <:+ l → l1.length < m → Pst W K l1 dp false er → Calls Tryz.prog f #[.pointer (some ⟨K.b, 0, none⟩)] W (RwPost K W l1 (G l1) dp false er)) (o c : List UInt8) (pr : Bool) (er : ErO) (w : World) (hW : l.length < m ∨ (fx l = o ∧ o ≠ [] ∧ l.length ≤ m)) (h : Pst w K l dp pr er) :
  Calls Tryz.prog 55 #[.pointer (some ⟨K.b, 0, none⟩), .string ⟨o.toArray⟩, .func (.func f) #[.pointer (some ⟨K.b, 0, none⟩)] #[], .string ⟨c.toArray⟩] w (RwPost K w l (withinP o G c l) dp pr er) := by
 have CG := kH CG
 have CW := kH fun s l1 er1 w1 h1 => pwant_any K l1 dp false er1 s w1 h1
 have CL := kH fun l1 er1 => pnls_any K l1 dp false er1
 have HK : Hid (K.b < w.heap.size ∧ K.g < w.heap.size) := kH ⟨h.lt, h.glt⟩
 have HW := kH hW
 have HTL := kH h.tll
 obtain ⟨c0, c1, c2, c3, c4, c5, f1, f2, f3, f4, f5⟩ := h.rd.cells
 have H0 := kH ((Mv.refl h).print false)
 clear h hW
 go_enter Tryz.func55, Tryz.ntmps55
 go_wp2_with fail
 refine (CW.out o _ _ _ H0.out.st).mono ?_
 rintro e w1 ⟨l1, er1, rfl, r1, m1⟩
 have H1 := kH (H0.out.trans m1)
 have HR1 := kH r1
 have HL1 : Hid (l1.length < m ∧ Tl l1) := kH (by
  refine ⟨?_, m1.st.tll⟩
  rcases HW.out with h1 | ⟨h1, h2, h3⟩
  ·
   have := r1.suf.length_le; omega
  ·
   rcases r1.alt with ⟨h4, _⟩ | ⟨e, _, _, h4⟩
   ·
    unfold wantP at h4
    rw [if_pos h1] at h4
    injection h4 with h4
    injection h4 with _ h4
    have := HTL.out.nx.2.2.2 (fx_kind h1 h2)
    rw [h4] at this
    omega
   ·
    have := HTL.out.nx.2.2.2 (fx_kind h1 h2)
    have := HTL.out.nx.2.2.1.pos
    omega)
 clear m1 r1
 go_wp2_with fail
 refine (CL.out _ _ _ H1.out.st).mono ?_
 rintro e w2 ⟨rfl, m2⟩
 have H2 := kH (H1.out.trans m2)
 have HL2 : Hid ((nlsP l1).length < m ∧ nlsP l1 <:+ l1) := kH (by
  have h1 := HL1.out.2.nls.1
  have := h1.length_le
  have := HL1.out.1
  exact ⟨by omega, h1⟩)
 clear m2
 go_wp2_with fail
 refine (CG.out _ _ _ (HL2.out.2.trans HR1.out.suf) HL2.out.1 H2.out.st).mono ?_
 rintro e w3 ⟨ts, ns, p, k, l3, er3, rfl, r3, m3, rw3, ln3⟩
 have H3 := kH (H2.out.trans m3)
 have HR3 := kH (r3.pre HL2.out.2)
 have HRW3 := kH (rw3.low (n1 := w.heap.size) (by have := H2.out.2.size; exact this))
 have HLN : Hid (ns.length ≤ l.length) := kH (by have := HL2.out.2.length_le; have := HR1.out.suf.length_le; omega)
 clear m3 r3 rw3 ln3
 go_wp2_with fail
 refine (CL.out _ _ _ H3.out.st).mono ?_
 rintro e w4 ⟨rfl, m4⟩
 have H4 := kH (H3.out.trans m4)
 have HRW4 := kH (HRW3.out.onl m4.2 HK.out.1)
 have HL4 := kH H3.out.st.tll.nls.1
 clear m4
 go_wp2_with fail
 refine (CW.out c _ _ _ H4.out.st).mono ?_
 rintro e w5 ⟨l5, er5, rfl, r5, m5⟩
 have H5 := kH (H4.out.trans m5)
 have HRW5 := kH (HRW4.out.onl m5.2 HK.out.1)
 have HR5 := kH (r5.pre HL4.out)
 clear m5 r5
 obtain ⟨c0, c1, c2, c3, c4, c5, f1, f2, f3, f4, f5⟩ := H5.out.st.rd.cells
 go_wp2_with fail
 go_ret
 refine ⟨ts, ns, p, k, l5, er5, rfl, ?_, H5.out.print pr, (HRW5.out.onl ((Onl.refl K.b w5).setCell 3 _) HK.out.1), HLN.out⟩
 exact HR1.out.bnd (HR3.out.bnd (HR5.out.bnd (Res.ret HR5.out.ne)))
theorem DpOk.suf {dp : Nat} {l l1 : List Tok} (h : DpOk dp l) (hs : l1 <:+ l) (hn : l1 ≠ []) : DpOk dp l1 := by
 have h1 := hs.length_le
 have h2 := List.length_pos_iff.2 hn
 unfold DpOk at *
 omega
theorem cfE : ∀ xs w, (callFunc 59 xs).run Tryz.prog w = .ok (.enter 59 xs) w := fun _ _ => by kernel_rfl
theorem cfA : ∀ xs w, (callFunc 114 xs).run Tryz.prog w = .ok (.enter 114 xs) w := fun _ _ => by kernel_rfl
theorem cfS : ∀ xs w, (callFunc 67 xs).run Tryz.prog w = .ok (.enter 67 xs) w := fun _ _ => by kernel_rfl
theorem cfP : ∀ xs w, (callFunc 74 xs).run Tryz.prog w = .ok (.enter 74 xs) w := fun _ _ => by kernel_rfl
theorem cfPs : ∀ xs w, (callFunc 56 xs).run Tryz.prog w = .ok (.enter 56 xs) w := fun _ _ => by kernel_rfl
theorem RwA.nil (w : World) (n0 : Nat) : RwA w n0 [] [] (.slice none 0 0) := ⟨World.ownsRow_nil w n0 _ 4, TreesP.nil _ _⟩
set_option maxHeartbeats 8000000 in
set_option maxRecDepth 100000 in
theorem pargs_any {reOk : List UInt8 → Bool} {K : Ps} {m : Nat} (IE : OkE reOk K m 59 fun R pr => R.E pr) : OkR reOk K m 114 fun R pr => argsP (R.E pr) := by
 intro dp pr l er w hd hl h
 have CR := kH fun W (hW : Pst W K l dp pr er) => prow_any (f := 59) cfE (G := ((rcP reOk (50 - dp)).E pr)) (l := l) (fun l1 er1 W1 hs hw => IE dp pr l1 er1 W1 hd (Nat.lt_of_le_of_lt hs.length_le hl) hw) er W hW
 have CC := kH (pcomes_any K l dp pr er [41])
 have H0 := kH (Mv.refl h)
 have HN := kH h.ne
 clear h IE hd hl
 show Calls Tryz.prog _ _ w (RwPost K w l (argsP ((rcP reOk (50 - dp)).E pr) l) dp pr er)
 unfold argsP
 by_cases hc : fx l = [41]
 ·
  rw [if_pos hc]
  rw [decide_eq_true hc] at CC
  clear hc CR
  go_enter Tryz.func114, Tryz.ntmps114
  go_wp2_with fail
  refine (CC.out _ H0.out.st).mono ?_
  rintro e w1 ⟨rfl, m1⟩
  have H1 := kH (H0.out.trans m1)
  clear m1
  go_wp2_with fail
  go_ret
  exact ⟨[], [], none, 0, l, er, rfl, Res.ret HN.out, H1.out, RwA.nil _ _, Nat.zero_le _⟩
 ·
  rw [if_neg hc]
  rw [decide_eq_false hc] at CC
  clear hc
  go_enter Tryz.func114, Tryz.ntmps114
  go_wp2_with fail
  refine (CC.out _ H0.out.st).mono ?_
  rintro e w1 ⟨rfl, m1⟩
  have H1 := kH (H0.out.trans m1)
  clear m1
  go_wp2_with fail
  refine (CR.out _ H1.out.st).mono ?_
  rintro e w2 ⟨ts, ns, p, c, l2, er2, rfl, r2, m2, rw2, ln2⟩
  have HE := kH (show RwPost K w l (row1 ((rcP reOk (50 - dp)).E pr) l) dp pr er (.returned (.slice p ns.length c)) w2 from ⟨ts, ns, p, c, l2, er2, rfl, r2, H1.out.trans m2, rw2.low H1.out.2.size, ln2⟩)
  clear r2 m2 rw2 ln2
  go_wp2_with fail
  go_ret
  exact HE.out
set_option maxHeartbeats 8000000 in
set_option maxRecDepth 100000 in
theorem plist_any {reOk : List UInt8 → Bool} {K : Ps} {m : Nat} (IE : OkE reOk K m 59 fun R pr => R.E pr) : OkR reOk K m 107 fun R _ => listP (R.E false) := by
 intro dp pr l er w hd hl h
 have CW := kH (pwithin_any (f := 114) cfA (G := argsP ((rcP reOk (50 - dp)).E false)) (l := l) (m := m) (fun l1 er1 W1 hs h1 hw => pargs_any IE dp false l1 er1 W1 hd h1 hw) [40] [41] pr er w (.inl hl) h)
 clear IE hd hl h
 show Calls Tryz.prog _ _ w (RwPost K w l (withinP [40] (argsP ((rcP reOk (50 - dp)).E false)) [41] l) dp pr er)
 go_enter Tryz.func107, Tryz.ntmps107
 go_wp2_with fail
 refine CW.out.mono ?_
 rintro e w2 ⟨ts, ns, p, c, l2, er2, rfl, r2, m2, rw2, ln2⟩
 have HE := kH (show RwPost K w l (withinP [40] (argsP ((rcP reOk (50 - dp)).E false)) [41] l) dp pr er (.returned (.slice p ns.length c)) w2 from ⟨ts, ns, p, c, l2, er2, rfl, r2, m2, rw2, ln2⟩)
 clear r2 m2 rw2 ln2 CW
 go_wp2_with fail
 go_ret
 exact HE.out
end Go.Proofs.YtmbfdkiejneheaaGreatDoor

namespace Go.Proofs.YtmbfdkiejneheaaGreatDoor
open Go.RowKit

theorem within_single {o c : List UInt8} {f : List Tok → TR PT} (l : List Tok) : withinP o (singleP f) c l = bnd (withinP o f c l) fun t l2 => .ok ([t], l2) := by
 unfold withinP singleP
 cases wantP o l with
 | error e => rfl
 | ok x =>
  obtain ⟨_, l1⟩ := x
  simp only [bnd_ok]
  cases f (nlsP l1) with
  | error e => rfl
  | ok x =>
   obtain ⟨t, l2⟩ := x
   simp only [bnd_ok]
   cases wantP c (nlsP l2) with
   | error e => rfl
   | ok x => rfl
theorem bnd_assoc {α β γ : Type} (x : TR α) (f : α → List Tok → TR β) (g : β → List Tok → TR γ) : bnd (bnd x f) g = bnd x fun a l => bnd (f a l) g := by
 cases x with
 | error e => rfl
 | ok y => rfl
theorem elem_eq (R : Rc) (op : List UInt8) (l : List Tok) : elemP R op l = bnd (nameP l) fun name l1 => if fx l1 = [91] then bnd (withinP [91] (singleP (R.E false)) [93] l1) fun ts l2 => .ok (named oIndex name ts, l2) else .ok (named op name [], l1) := by
 unfold elemP nameP
 by_cases hk : (tk l).k = 5
 ·
  rw [if_pos hk, if_pos hk, bnd_ok]
  simp only [within_single, bnd_assoc, bnd_ok]
 ·
  rw [if_neg hk, if_neg hk]; rfl
/-- The document's node of a token and a row. -/
theorem RwA.named {w : World} {n0 : Nat} {ts : List PT} {ns : List An} {p : Option Addr} {c : Nat} (h : RwA w n0 ts ns (.slice p ns.length c)) (op : List UInt8) (t : Tok) : TreeP w (fun k => n0 ≤ k) (Go.Proofs.YtmbfdkiejneheaaGreatDoor.named op t ts) ⟨bs op, bs t.t, (t.a : Int), p, ns.length, c⟩ := h.node op t.t t.a
theorem RwA.nd {w : World} {n0 : Nat} {ts : List PT} {ns : List An} {p : Option Addr} {c : Nat} (h : RwA w n0 ts ns (.slice p ns.length c)) (op : List UInt8) : TreeP w (fun k => n0 ≤ k) (Go.Proofs.YtmbfdkiejneheaaGreatDoor.nd op ts) ⟨bs op, ⟨#[]⟩, 0, p, ns.length, c⟩ := h.node op [] 0
theorem two_of {l : List Tok} (hl : Tl l) (hk : (tk l).k ≠ 0) : 2 ≤ l.length := by
 obtain ⟨t, r, rfl, h1 | h1⟩ := hl.cons
 ·
  exact absurd h1.1 hk
 ·
  have := h1.2.pos; simp only [List.length_cons]; omega
/-- Where more is to come than the end, the levels are no more than may be. -/
theorem DpOk.live {dp : Nat} {l l1 : List Tok} (h : DpOk dp l) (hs : l1.length ≤ l.length) (h2 : 2 ≤ l1.length) : dp ≤ 50 := by
 rcases h with h | ⟨_, h⟩
 ·
  exact h
 ·
  omega
/-- What a function that ends here leaves in its result's block. -/
theorem NdPost.put {K : Ps} {w w' : World} {l l2 : List Tok} {X : TR PT} {dp : Nat} {pr : Bool} {er er2 : ErO} {t : PT} {n : An} (hr : Res X l er t l2 er2) (hm : Mv K w l2 dp pr er2 w') (ht : TreeP w' (fun k => w.heap.size + 1 ≤ k) t n) (hK : K.b < w.heap.size ∧ K.g < w.heap.size) :
  NdPost K w w.heap.size l X dp pr er (.returned (An.val n)) (putA w' w.heap.size n) :=
 ⟨t, n, l2, er2, rfl, hr, ⟨hm.1.putA (by omega) (by omega) n, hm.2.putA (Nat.le_refl _) n⟩, (ht.putA (fun k hk _ => by omega) n).low (Nat.le_succ _)⟩
theorem Mv.below {K : Ps} {w w1 w2 : World} {l : List Tok} {dp : Nat} {pr : Bool} {er : ErO} (h : Mv K w l dp pr er w1) (hb : Below w1.heap.size w1 w2) : Mv K w l dp pr er w2 :=
 ⟨h.1.below hb, h.2.trans (Onl.of_below hb (Nat.le_refl _))⟩
theorem BlkA.new0 (w : World) : BlkA (w.alloc zN) w.heap.size An.zero := BlkA.new w An.zero
set_option maxHeartbeats 8000000 in
set_option maxRecDepth 100000 in
theorem pelem_any {reOk : List UInt8 → Bool} {K : Ps} {m : Nat} (IE : OkE reOk K m 59 fun R pr => R.E pr) (op : List UInt8) (dp : Nat) (pr : Bool) (l : List Tok) (er : ErO) (w : World) (hd : DpOk dp l) (hl : l.length ≤ m) (h : Pst w K l dp pr er) :
  Calls Tryz.prog 86 #[.pointer (some ⟨K.b, 0, none⟩), .string ⟨op.toArray⟩] w (NdPost K w w.heap.size l (elemP (rcP reOk (50 - dp)) op l) dp pr er) := by
 rw [elem_eq]
 have CN := kH fun W hW => pwname_any K l dp pr er W hW
 have CC := kH fun l1 er1 => pcomes_any K l1 dp pr er1 [91]
 have CW := kH fun l1 er1 W (hs : l1 <:+ l) (hc : fx l1 = [91]) hW => pwithin_any (f := 67) cfS (G := singleP ((rcP reOk (50 - dp)).E false)) (l := l1) (m := m) (fun l2 er2 W2 hs2 h2 hw => psingle_any IE dp false l2 er2 W2 (hd.live (hs.length_le) (two_of (h.tll.suf hs (fun e => by rw [e] at hc; simp [fx, tk, noT] at hc)) (fx_kind hc (by simp)))) h2 hw) [91] [93] pr er1 W (.inr ⟨hc, by simp, Nat.le_trans hs.length_le hl⟩) hW
 have CM := kH fun o t p n c W => pnamed_any o t p n c W
 have HK : Hid (K.b < w.heap.size ∧ K.g < w.heap.size) := kH ⟨h.lt, h.glt⟩
 have HNZ : Hid (w.heap.size ≠ K.b) := kH (by have := HK.out; omega)
 have HN := kH (BlkA.new0 w)
 have H0 := kH ((Mv.refl h).alloc zN)
 have HSZ : Hid (w.heap.size + 1 = (w.alloc zN).heap.size) := kH (by simp)
 clear IE hd hl h
 go_enter Tryz.func86, Tryz.ntmps86
 go_wp2_with fail
 generalize w.alloc zN = w0 at *
 have HLT := kH HN.out.lt
 refine (CN.out _ H0.out.st).mono ?_
 rintro e w1 ⟨t1, l1, er1, rfl, r1, m1⟩
 have HN := kH (HN.out.onl m1.2 HNZ.out)
 have HR1 := kH r1
 have H1 := kH (H0.out.trans m1)
 clear m1 r1
 have HBHT1 : Hid (w1.heap.size ≠ K.b) := kH (by have := H1.out.st.lt; omega)
 have HN := kH (HN.out.alloc (.cells #[.int .i64 (t1).k, .string ⟨(t1).t.toArray⟩, .int .i64 (t1).a] 60))
 have HT1 := kH (BlkT.new w1 t1)
 have H1 := kH (H1.out.alloc (.cells #[.int .i64 (t1).k, .string ⟨(t1).t.toArray⟩, .int .i64 (t1).a] 60))
 unfold tokV
 go_wp2_with fail
 have CC := kH (CC.out l1 er1)
 by_cases hc : fx l1 = [91]
 ·
  have HC := kH hc
  rw [decide_eq_true hc] at CC
  clear hc
  refine (CC.out _ H1.out.st).mono ?_
  rintro e w2 ⟨rfl, m2⟩
  have HN := kH (HN.out.onl m2.2 HNZ.out)
  have HT1 := kH (HT1.out.onl m2.2 HBHT1.out)
  have H2 := kH (H1.out.trans m2)
  clear m2
  go_wp2_with fail
  have HN := kH (HN.out.drew)
  have HT1 := kH (HT1.out.drew)
  have H2 := kH H2.out.drew
  refine wp_region_L (st := [6]) (S := fun Z => BlkT Z w1.heap.size t1) (by kernel_rfl) (HT1.out) (fun hHeld => ?_)
  generalize w2.drew = wd2 at *
  refine tkL 0 (v := ?_) rfl ?_ ?_
  rotate_left
  ·
   (intro w hSw; obtain ⟨d0, d1, d2, dk0, dk1, dk2⟩ := BlkT.cells hSw; go_simp; try with_reducible rfl)
  try simp only [nrm]
  refine tkL 1 (v := ?_) rfl ?_ ?_
  rotate_left
  ·
   (intro w hSw; obtain ⟨d0, d1, d2, dk0, dk1, dk2⟩ := BlkT.cells hSw; go_simp; try with_reducible rfl)
  try simp only [nrm]
  refine tkL 2 (v := ?_) rfl ?_ ?_
  rotate_left
  ·
   (intro w hSw; obtain ⟨d0, d1, d2, dk0, dk1, dk2⟩ := BlkT.cells hSw; go_simp; try with_reducible rfl)
  try simp only [nrm]
  refine tkL 3 (v := ?_) rfl ?_ ?_
  rotate_left
  ·
   (intro w hSw; obtain ⟨d0, d1, d2, dk0, dk1, dk2⟩ := BlkT.cells hSw; go_simp; try with_reducible rfl)
  try simp only [nrm]
  refine rdL 4 rfl (fun K2 hK => ?_)
  go_simp
  have HLT := kH HN.out.lt
  refine (CW.out _ _ _ HR1.out.suf HC.out H2.out.st).mono ?_
  rintro e w3 ⟨ts, ns, p, c, l3, er3, rfl, r3, m3, rw3, ln3⟩
  have HN := kH (HN.out.onl m3.2 HNZ.out)
  have HT1 := kH (HT1.out.onl m3.2 HBHT1.out)
  have HR3 := kH r3
  have HW3 := kH (rw3.low (n1 := w.heap.size + 1) (by have := HLT.out; omega))
  have H3 := kH (H2.out.trans m3)
  clear m3 r3 rw3 ln3
  refine hK.out _ _ (HT1.out) (fun hHeld => ?_)
  clear hK K2
  try simp only [nrm]
  refine rdL 5 rfl (fun K2 hK => ?_)
  go_simp
  refine (CM.out _ t1 _ _ _ _).mono ?_
  rintro e w4 ⟨rfl, hb4⟩
  have HN := kH (HN.out.below hb4)
  have HT1 := kH (HT1.out.below hb4)
  have HW3 := kH (HW3.out.below hb4)
  have H4 := kH (H3.out.below hb4)
  clear hb4
  unfold An.val
  refine hK.out _ _ (HT1.out) (fun hHeld => ?_)
  clear hK K2
  try simp only
  refine wpAnyL_ready (rs := [6]) (by kernel_rfl) (by simp) ?_
  refine AllReadyL.store (o := _) rfl (by decide) (by decide) (fun K2 hK => ?_) AllReadyL.nil
  obtain ⟨z0, z1, z2, z3, zk0, zk1, zk2, zk3⟩ := HN.out.cells
  go_simp
  refine hK.out _ _ ?_
  clear hK K2
  try simp only [nrm]
  refine wpAnyL_done (by kernel_rfl) ?_ _
  go_wp2_with fail
  exact bodyPost_ret (v := An.val ⟨bs oIndex, bs t1.t, t1.a, p, ns.length, c⟩) (by simp [results, Tryz.results86, go_sem, An.val, z0, z1, z2, z3] <;> rfl) rfl (NdPost.put (n := ⟨bs oIndex, bs t1.t, t1.a, p, ns.length, c⟩) (HR1.out.bnd (by rw [if_pos HC.out]; exact HR3.out.bnd (Res.ret HR3.out.ne))) H4.out (HW3.out.named oIndex t1) HK.out)
 ·
  have HC := kH hc
  rw [decide_eq_false hc] at CC
  clear hc
  refine (CC.out _ H1.out.st).mono ?_
  rintro e w2 ⟨rfl, m2⟩
  have HN := kH (HN.out.onl m2.2 HNZ.out)
  have HT1 := kH (HT1.out.onl m2.2 HBHT1.out)
  have H2 := kH (H1.out.trans m2)
  clear m2
  obtain ⟨d0, d1, d2, dk0, dk1, dk2⟩ := HT1.out.cells
  go_wp2_with fail
  refine (CM.out _ t1 _ _ _ _).mono ?_
  rintro e w3 ⟨rfl, hb3⟩
  have HN := kH (HN.out.below hb3)
  have HT1 := kH (HT1.out.below hb3)
  have H3 := kH (H2.out.below hb3)
  clear hb3
  unfold An.val
  obtain ⟨z0, z1, z2, z3, zk0, zk1, zk2, zk3⟩ := HN.out.cells
  go_wp2_with fail
  exact bodyPost_ret (v := An.val ⟨bs op, bs t1.t, t1.a, none, 0, 0⟩) (by simp [results, Tryz.results86, go_sem, An.val, z0, z1, z2, z3] <;> rfl) rfl (NdPost.put (n := ⟨bs op, bs t1.t, t1.a, none, 0, 0⟩) (HR1.out.bnd (by rw [if_neg HC.out]; exact Res.ret HR1.out.ne)) H3.out ((RwA.nil _ _).named op t1) HK.out)
/-- What regex.Parse tells of a text: no error just where reOk says so. -/
def ReOk (reOk : List UInt8 → Bool) : Prop := ∀ (s : List UInt8) (W : World), Calls Tryz.prog 128 #[.string ⟨s.toArray⟩] W fun e w' => ∃ (nd : Nd) (p c : Nat), e = .returned (.tuple #[Nd.val nd, .int .i64 (p : Int), .int .i64 (c : Int)]) ∧ (reOk s = true ↔ c = 0) ∧ Below W.heap.size W w'
def patP (reOk : List UInt8 → Bool) (l : List Tok) : TR PT := if reOk (tk l).t then .ok (named oRe (tk l) [], nx l) else .error (refE l)
theorem Res.fail2 {α : Type} {X : TR α} {l : List Tok} {er : ErO} (a : α) {e : Nat × Nat} (hl : Tl l) (hX : X = .error e) : Res X l er a (nx (lst l)) (some (er.getD e)) := by
 have h0 := hl.suf (lst_suf l) (lst_ne hl.ne)
 refine ⟨h0.nx.1.trans (lst_suf l), h0.nx.2.1, .inr ⟨e, hX, rfl, ?_⟩⟩
 have h1 := h0.nx.1.length_le
 have h2 := lst_len hl.ne
 have h3 := List.length_pos_iff.2 h0.nx.2.1
 omega
set_option maxHeartbeats 8000000 in
set_option maxRecDepth 100000 in
theorem ppat_any {reOk : List UInt8 → Bool} (HRe : ReOk reOk) (K : Ps) (dp : Nat) (pr : Bool) (l : List Tok) (er : ErO) (w : World) (h : Pst w K l dp pr er) :
  Calls Tryz.prog 125 #[.pointer (some ⟨K.b, 0, none⟩)] w (NdPost K w w.heap.size l (patP reOk l) dp pr er) := by
 have CT := kH (ptok_any K l dp pr er)
 have CX := kH (prefuse_any K l dp pr er)
 have CN := kH (pnext_any K l dp pr er)
 have CN2 := kH (pnext_any K (lst l) dp pr (some (er.getD (refE l))))
 have CR := kH (HRe (tk l).t)
 have CM := kH fun o t p n c W => pnamed_any o t p n c W
 have HTL := kH h.tll
 have hf := Tryz.fldT (tk l).k (tk l).a ⟨(tk l).t.toArray⟩
 have HK : Hid (K.b < w.heap.size ∧ K.g < w.heap.size) := kH ⟨h.lt, h.glt⟩
 have HNZ : Hid (w.heap.size ≠ K.b) := kH (by have := HK.out; omega)
 have HN := kH (BlkA.new0 w)
 have H0 := kH ((Mv.refl h).alloc zN)
 have HSZ : Hid (w.heap.size + 1 = (w.alloc zN).heap.size) := kH (by simp)
 clear HRe h
 go_enter Tryz.func125, Tryz.ntmps125
 go_wp2_with fail
 generalize w.alloc zN = w0 at *
 refine (CT.out _ H0.out.st).mono ?_
 rintro e w1 ⟨rfl, m1⟩
 have HN := kH (HN.out.onl m1.2 HNZ.out)
 have H1 := kH (H0.out.trans m1)
 clear m1
 unfold tokV
 go_wp2_with fail
 refine (CR.out w1).mono ?_
 rintro e w2 ⟨ndv, pv, cv, rfl, hcv, hb2⟩
 have HN := kH (HN.out.below hb2)
 have H2 := kH (H1.out.below hb2)
 clear hb2
 unfold Nd.val
 have HN := kH (HN.out.alloc (.cells #[.int .i64 ndv.op, .int .u64 ndv.set.a, .int .u64 ndv.set.b, .int .u64 ndv.set.c, .int .u64 ndv.set.d, .slice ndv.kp ndv.kn ndv.kc] 100))
 have H2 := kH (H2.out.alloc (.cells #[.int .i64 ndv.op, .int .u64 ndv.set.a, .int .u64 ndv.set.b, .int .u64 ndv.set.c, .int .u64 ndv.set.d, .slice ndv.kp ndv.kn ndv.kc] 100))
 by_cases hc : cv = 0
 ·
  have HX := kH (hcv.2 hc)
  have hz : ((cv : Int) != 0) = false := by rw [bne_eq_false_iff_eq]; omega
  clear hcv hc
  go_wp2_with fail
  refine (CN.out _ H2.out.st).mono ?_
  rintro e w3 ⟨rfl, m3⟩
  have HN := kH (HN.out.onl m3.2 HNZ.out)
  have H3 := kH (H2.out.trans m3)
  clear m3
  unfold tokV
  go_wp2_with fail
  refine (CM.out _ (tk l) _ _ _ _).mono ?_
  rintro e w4 ⟨rfl, hb4⟩
  have HN := kH (HN.out.below hb4)
  have H4 := kH (H3.out.below hb4)
  clear hb4
  unfold An.val
  obtain ⟨z0, z1, z2, z3, zk0, zk1, zk2, zk3⟩ := HN.out.cells
  go_wp2_with fail
  exact bodyPost_ret (v := An.val ⟨bs oRe, bs (tk l).t, (tk l).a, none, 0, 0⟩) (by simp [results, Tryz.results125, go_sem, An.val, z0, z1, z2, z3] <;> rfl) rfl (NdPost.put (n := ⟨bs oRe, bs (tk l).t, (tk l).a, none, 0, 0⟩) (by unfold patP; rw [if_pos HX.out]; exact Res.ret' HTL.out.nx.1 HTL.out.nx.2.1) H4.out ((RwA.nil _ _).named oRe (tk l)) HK.out)
 ·
  have HX := kH (fun e => hc (hcv.1 e))
  have hz : ((cv : Int) != 0) = true := by rw [bne_iff_ne]; omega
  clear hc hcv
  go_wp2_with fail
  refine (CX.out _ H2.out.st).mono ?_
  rintro e w3 ⟨rfl, m3⟩
  have HN := kH (HN.out.onl m3.2 HNZ.out)
  have H3 := kH (H2.out.trans m3)
  clear m3
  go_wp2_with fail
  refine (CN2.out _ H3.out.st).mono ?_
  rintro e w4 ⟨rfl, m4⟩
  have HN := kH (HN.out.onl m4.2 HNZ.out)
  have H4 := kH (H3.out.trans m4)
  clear m4
  unfold tokV
  go_wp2_with fail
  refine (CM.out _ (tk (lst l)) _ _ _ _).mono ?_
  rintro e w5 ⟨rfl, hb5⟩
  have HN := kH (HN.out.below hb5)
  have H5 := kH (H4.out.below hb5)
  clear hb5
  unfold An.val
  obtain ⟨z0, z1, z2, z3, zk0, zk1, zk2, zk3⟩ := HN.out.cells
  go_wp2_with fail
  exact bodyPost_ret (v := An.val ⟨bs oRe, bs (tk (lst l)).t, (tk (lst l)).a, none, 0, 0⟩) (by simp [results, Tryz.results125, go_sem, An.val, z0, z1, z2, z3] <;> rfl) rfl (NdPost.put (n := ⟨bs oRe, bs (tk (lst l)).t, (tk (lst l)).a, none, 0, 0⟩) (Res.fail2 _ HTL.out (by unfold patP; rw [if_neg HX.out])) H5.out ((RwA.nil _ _).named oRe (tk (lst l))) HK.out)
end Go.Proofs.YtmbfdkiejneheaaGreatDoor
