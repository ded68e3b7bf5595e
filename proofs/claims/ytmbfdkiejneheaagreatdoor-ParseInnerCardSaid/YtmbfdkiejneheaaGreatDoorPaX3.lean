/-
 CONTRACTS of layer 13's block.
-/
import Derived.Test.YtmbfdkiejneheaaGreatDoorPaWF
namespace Go.Proofs.YtmbfdkiejneheaaGreatDoor
open Go.RowKit

theorem pexpr_all {reOk : List UInt8 → Bool} {K : Ps} (HRe : ReOk reOk) : ∀ m : Nat,
  (OkE reOk K m 59 fun R pr => R.E pr) ∧ (OkN reOk K m 124 fun R _ => primP reOk R) ∧ (OkN reOk K m 119 fun R _ => unaryP reOk R)
 | 0 => ⟨fun _ _ _ _ _ _ hl _ => absurd hl (Nat.not_lt_zero _), fun _ _ _ _ _ _ hl _ => absurd hl (Nat.not_lt_zero _), fun _ _ _ _ _ _ hl _ => absurd hl (Nat.not_lt_zero _)⟩
 | m + 1 => by
  obtain ⟨IE, IP, IU⟩ := pexpr_all HRe m
  exact ⟨fun dp pr l er W hd hl h => pexpr_any HRe IE IP IU dp pr l er W hd (Nat.le_of_lt_succ hl) h, fun dp pr l er W hd hl h => pprim_any HRe IE IP dp pr l er W hd (Nat.le_of_lt_succ hl) h, fun dp pr l er W hd hl h => punary_any HRe IE IP IU dp pr l er W hd (Nat.le_of_lt_succ hl) h⟩
end Go.Proofs.YtmbfdkiejneheaaGreatDoor

namespace Go.Proofs.YtmbfdkiejneheaaGreatDoor
open Go.RowKit

/-- Any number of tokens. -/
theorem pexpr_any' {reOk : List UInt8 → Bool} {K : Ps} (HRe : ReOk reOk) (dp : Nat) (pr : Bool) (l : List Tok) (er : ErO) (w : World) (hd : dp ≤ 50) (h : Pst w K l dp pr er) :
  Calls Tryz.prog 59 #[.pointer (some ⟨K.b, 0, none⟩)] w (NdPost K w w.heap.size l ((rcP reOk (50 - dp)).E pr l) dp pr er) :=
 (pexpr_all HRe (l.length + 1)).1 dp pr l er w hd (Nat.lt_succ_self _) h
theorem pside_any' {reOk : List UInt8 → Bool} {K : Ps} (HRe : ReOk reOk) (dp : Nat) (pr : Bool) (l : List Tok) (er : ErO) (w : World) (hd : DpOk dp l) (h : Pst w K l dp pr er) :
  Calls Tryz.prog 109 #[.pointer (some ⟨K.b, 0, none⟩)] w (NdPost K w w.heap.size l (sideP reOk (rcP reOk (50 - dp)) l) dp pr er) :=
 pside_any HRe (pexpr_all HRe l.length).1 (pexpr_all HRe l.length).2.1 (pexpr_all HRe l.length).2.2 dp pr l er w hd (Nat.le_refl _) h
/-- What ends a simple statement. -/
def endP (l : List Tok) : TR Unit := if (tk l).k = 1 ∨ fx l = [59] then .ok ((), nx l) else if fx l = [125] then .ok ((), l) else .error (refE l)
/-- Back to where it was. -/
theorem Mv.back {K : Ps} {w w' : World} {l l3 : List Tok} {dp : Nat} {pr : Bool} {er : ErO} (h : Mv K w l3 dp pr er w') (hs : l <:+ K.L) (hn : l ≠ []) (hd : er ≠ none → l.length = 1) : Mv K w l dp pr er (w'.setCell ⟨K.b, 1, none⟩ (.int .i64 ((K.L.length - l.length : Nat) : Int))) :=
 ⟨⟨h.1.rd.setP _, h.1.ts.kept (Below.heap_setCell w' _ _ _ h.1.sep), h.1.tl, hs, hn, h.1.len, h.1.sep, hd, h.1.code, h.1.cap⟩, h.2.setCell 1 _⟩
set_option maxHeartbeats 8000000 in
set_option maxRecDepth 100000 in
theorem pend_any (K : Ps) (l : List Tok) (dp : Nat) (pr : Bool) (er : ErO) (w : World) (h : Pst w K l dp pr er) :
  Calls Tryz.prog 71 #[.pointer (some ⟨K.b, 0, none⟩)] w fun e w' => ∃ l2 er2, e = .returned (.tuple #[]) ∧ Res (endP l) l er () l2 er2 ∧ Mv K w l2 dp pr er2 w' := by
 have CK := kH (pkind_any K l dp pr er 1)
 have CN := kH (pnext_any K l dp pr er)
 have CT := kH (ptake_any K l dp pr er [59])
 have CC := kH (pcomes_any K l dp pr er [125])
 have CX := kH (prefuse_any K l dp pr er)
 have HTL := kH h.tll.nx
 have HNE := kH h.ne
 have H0 := kH (Mv.refl h)
 clear h
 by_cases hk : (tk l).k = 1
 ·
  have HX : Hid (endP l = .ok ((), nx l)) := kH (by unfold endP; rw [if_pos (.inl hk)])
  rw [decide_eq_true (show ((tk l).k : Int) = 1 from by omega)] at CK
  clear hk
  go_enter Tryz.func71, Tryz.ntmps71
  go_wp2_with fail
  refine (CK.out _ H0.out.st).mono ?_
  rintro e w1 ⟨rfl, m1⟩
  have H1 := kH (H0.out.trans m1)
  clear m1
  go_wp2_with fail
  refine (CN.out _ H1.out.st).mono ?_
  rintro e w2 ⟨rfl, m2⟩
  have H2 := kH (H1.out.trans m2)
  clear m2
  unfold tokV
  go_wp2_with fail
  go_end0
  exact ⟨_, _, rfl, by rw [HX.out]; exact Res.ret' HTL.out.1 HTL.out.2.1, H2.out⟩
 ·
  rw [decide_eq_false (show ¬ ((tk l).k : Int) = 1 from by omega)] at CK
  by_cases hc : fx l = [59]
  ·
   have HX : Hid (endP l = .ok ((), nx l)) := kH (by unfold endP; rw [if_pos (.inr hc)])
   rw [if_pos hc, decide_eq_true hc] at CT
   clear hk hc
   go_enter Tryz.func71, Tryz.ntmps71
   go_wp2_with fail
   refine (CK.out _ H0.out.st).mono ?_
   rintro e w1 ⟨rfl, m1⟩
   have H1 := kH (H0.out.trans m1)
   clear m1
   go_wp2_with fail
   refine (CT.out _ H1.out.st).mono ?_
   rintro e w2 ⟨rfl, m2⟩
   have H2 := kH (H1.out.trans m2)
   clear m2
   go_wp2_with fail
   go_end0
   exact ⟨_, _, rfl, by rw [HX.out]; exact Res.ret' HTL.out.1 HTL.out.2.1, H2.out⟩
  ·
   rw [if_neg hc, decide_eq_false hc] at CT
   by_cases hb : fx l = [125]
   ·
    have HX : Hid (endP l = .ok ((), l)) := kH (by unfold endP; rw [if_neg (by rintro (h | h) <;> contradiction), if_pos hb])
    rw [decide_eq_true hb] at CC
    clear hk hc hb
    go_enter Tryz.func71, Tryz.ntmps71
    go_wp2_with fail
    refine (CK.out _ H0.out.st).mono ?_
    rintro e w1 ⟨rfl, m1⟩
    have H1 := kH (H0.out.trans m1)
    clear m1
    go_wp2_with fail
    refine (CT.out _ H1.out.st).mono ?_
    rintro e w2 ⟨rfl, m2⟩
    have H2 := kH (H1.out.trans m2)
    clear m2
    go_wp2_with fail
    refine (CC.out _ H2.out.st).mono ?_
    rintro e w3 ⟨rfl, m3⟩
    have H3 := kH (H2.out.trans m3)
    clear m3
    go_wp2_with fail
    go_end0
    exact ⟨_, _, rfl, by rw [HX.out]; exact Res.ret HNE.out, H3.out⟩
   ·
    have HX : Hid (endP l = .error (refE l)) := kH (by unfold endP; rw [if_neg (by rintro (h | h) <;> contradiction), if_neg hb])
    rw [decide_eq_false hb] at CC
    clear hk hc hb
    go_enter Tryz.func71, Tryz.ntmps71
    go_wp2_with fail
    refine (CK.out _ H0.out.st).mono ?_
    rintro e w1 ⟨rfl, m1⟩
    have H1 := kH (H0.out.trans m1)
    clear m1
    go_wp2_with fail
    refine (CT.out _ H1.out.st).mono ?_
    rintro e w2 ⟨rfl, m2⟩
    have H2 := kH (H1.out.trans m2)
    clear m2
    go_wp2_with fail
    refine (CC.out _ H2.out.st).mono ?_
    rintro e w3 ⟨rfl, m3⟩
    have H3 := kH (H2.out.trans m3)
    clear m3
    go_wp2_with fail
    refine (CX.out _ H3.out.st).mono ?_
    rintro e w4 ⟨rfl, m4⟩
    have H4 := kH (H3.out.trans m4)
    clear m4
    go_wp2_with fail
    go_end0
    exact ⟨_, _, rfl, Res.fail () HNE.out HX.out, H4.out⟩
set_option maxHeartbeats 8000000 in
set_option maxRecDepth 100000 in
theorem pelse_any (K : Ps) (l : List Tok) (dp : Nat) (pr : Bool) (er : ErO) : MvC 80 [] K l dp pr er (.returned (.bool (elseP l).isSome)) ((elseP l).getD l) dp pr er := by
 intro w h
 have CL := kH fun l1 => pnls_any K l1 dp pr er
 have CT := kH fun l1 s => ptake_any K l1 dp pr er s
 have HB : Hid (l <:+ K.L ∧ l ≠ [] ∧ (er ≠ none → l.length = 1)) := kH ⟨h.suf, h.ne, h.dead⟩
 have H0 := kH (Mv.refl h)
 obtain ⟨c0, c1, c2, c3, c4, c5, f1, f2, f3, f4, f5⟩ := h.rd.cells
 clear h
 obtain ⟨l2, hl2⟩ : ∃ l2, (if fx (nlsP l) = [59] then nx (nlsP l) else nlsP l) = l2 := ⟨_, rfl⟩
 have HE : Hid (elseP l = if fx (nlsP l2) = [101, 108, 115, 101] then some (nx (nlsP l2)) else none) := kH (by unfold elseP; simp only [hl2])
 have CT1 := kH (CT.out (nlsP l) [59])
 rw [hl2] at CT1
 have CT2 := kH (CT.out (nlsP l2) [101, 108, 115, 101])
 clear hl2
 by_cases he : fx (nlsP l2) = [101, 108, 115, 101]
 ·
  have HX : Hid (elseP l = some (nx (nlsP l2))) := kH (by rw [HE.out, if_pos he])
  rw [if_pos he, decide_eq_true he] at CT2
  clear he HE
  go_enter Tryz.func80, Tryz.ntmps80
  go_wp2_with fail
  refine ((CL.out l) _ H0.out.st).mono ?_
  rintro e w1 ⟨rfl, m1⟩
  have H1 := kH (H0.out.trans m1)
  clear m1
  go_wp2_with fail
  refine (CT1.out _ H1.out.st).mono ?_
  rintro e w2 ⟨rfl, m2⟩
  have H2 := kH (H1.out.trans m2)
  clear m2
  go_wp2_with fail
  refine ((CL.out l2) _ H2.out.st).mono ?_
  rintro e w3 ⟨rfl, m3⟩
  have H3 := kH (H2.out.trans m3)
  clear m3
  go_wp2_with fail
  refine (CT2.out _ H3.out.st).mono ?_
  rintro e w4 ⟨rfl, m4⟩
  have H4 := kH (H3.out.trans m4)
  clear m4
  go_wp2_with fail
  go_ret
  rw [HX.out]
  exact ⟨rfl, H4.out⟩
 ·
  have HX : Hid (elseP l = none) := kH (by rw [HE.out, if_neg he])
  rw [if_neg he, decide_eq_false he] at CT2
  clear he HE
  go_enter Tryz.func80, Tryz.ntmps80
  go_wp2_with fail
  refine ((CL.out l) _ H0.out.st).mono ?_
  rintro e w1 ⟨rfl, m1⟩
  have H1 := kH (H0.out.trans m1)
  clear m1
  go_wp2_with fail
  refine (CT1.out _ H1.out.st).mono ?_
  rintro e w2 ⟨rfl, m2⟩
  have H2 := kH (H1.out.trans m2)
  clear m2
  go_wp2_with fail
  refine ((CL.out l2) _ H2.out.st).mono ?_
  rintro e w3 ⟨rfl, m3⟩
  have H3 := kH (H2.out.trans m3)
  clear m3
  go_wp2_with fail
  refine (CT2.out _ H3.out.st).mono ?_
  rintro e w4 ⟨rfl, m4⟩
  have H4 := kH (H3.out.trans m4)
  clear m4
  obtain ⟨c0, c1, c2, c3, c4, c5, f1, f2, f3, f4, f5⟩ := H4.out.st.rd.cells
  go_wp2_with fail
  go_ret
  rw [HX.out]
  exact ⟨rfl, H4.out.back HB.out.1 HB.out.2.1 HB.out.2.2⟩
set_option maxHeartbeats 8000000 in
set_option maxRecDepth 100000 in
theorem punless_any {K : Ps} {f : FuncId} {G : List Tok → TR PT} {dp : Nat} {pr : Bool} (hcf : ∀ xs w, (callFunc f xs).run Tryz.prog w = .ok (.enter f xs) w) (l : List Tok) (er : ErO)
  (CG : ∀ W, Pst W K l dp pr er → Calls Tryz.prog f #[.pointer (some ⟨K.b, 0, none⟩)] W (NdPost K W W.heap.size l (G l) dp pr er)) (s : List UInt8) (w : World) (h : Pst w K l dp pr er) :
  Calls Tryz.prog 95 #[.pointer (some ⟨K.b, 0, none⟩), .string ⟨s.toArray⟩, .func (.func f) #[.pointer (some ⟨K.b, 0, none⟩)] #[]] w (NdPost K w w.heap.size l (unlessP s G l) dp pr er) := by
 have CG := kH CG
 have CC := kH (pcomes_any K l dp pr er s)
 have CM := kH fun o p n c W => pnode_any o p n c W
 have HNE := kH h.ne
 have HK : Hid (K.b < w.heap.size ∧ K.g < w.heap.size) := kH ⟨h.lt, h.glt⟩
 have HNZ : Hid (w.heap.size ≠ K.b) := kH (by have := HK.out; omega)
 have HN := kH (BlkA.new0 w)
 have H0 := kH ((Mv.refl h).alloc zN)
 have HSZ : Hid (w.heap.size + 1 = (w.alloc zN).heap.size) := kH (by simp)
 clear h
 by_cases hc : fx l = s
 ·
  have HC := kH hc
  rw [decide_eq_true hc] at CC
  clear hc
  go_enter Tryz.func95, Tryz.ntmps95
  go_wp2_with fail
  generalize w.alloc zN = w0 at *
  refine (CC.out _ H0.out.st).mono ?_
  rintro e w1 ⟨rfl, m1⟩
  have HN := kH (HN.out.onl m1.2 HNZ.out)
  have H1 := kH (H0.out.trans m1)
  clear m1
  go_wp2_with fail
  refine (CM.out _ _ _ _ _).mono ?_
  rintro e w2 ⟨rfl, hb2⟩
  have HN := kH (HN.out.below hb2)
  have H2 := kH (H1.out.below hb2)
  clear hb2
  unfold An.val
  obtain ⟨z0, z1, z2, z3, zk0, zk1, zk2, zk3⟩ := HN.out.cells
  go_wp2_with fail
  exact bodyPost_ret (v := An.val ⟨bs oNone, ⟨#[]⟩, 0, none, 0, 0⟩) (by simp [results, Tryz.results95, go_sem, An.val, z0, z1, z2, z3] <;> rfl) rfl (NdPost.put (n := ⟨bs oNone, ⟨#[]⟩, 0, none, 0, 0⟩) (by unfold unlessP; rw [if_pos HC.out]; exact Res.ret HNE.out) H2.out (TreeP.leaf _ _ oNone [] 0) HK.out)
 ·
  have HC := kH hc
  rw [decide_eq_false hc] at CC
  clear hc
  go_enter Tryz.func95, Tryz.ntmps95
  go_wp2_with fail
  generalize w.alloc zN = w0 at *
  refine (CC.out _ H0.out.st).mono ?_
  rintro e w1 ⟨rfl, m1⟩
  have HN := kH (HN.out.onl m1.2 HNZ.out)
  have H1 := kH (H0.out.trans m1)
  clear m1
  go_wp2_with fail
  have HLT := kH HN.out.lt
  refine (CG.out _ H1.out.st).mono ?_
  rintro e w2 ⟨t2, n2, l2, er2, rfl, r2, m2, tr2⟩
  have HN := kH (HN.out.onl m2.2 HNZ.out)
  have HR2 := kH r2
  have HT2 := kH (tr2.low (B1 := w.heap.size + 1) (by have := HLT.out; omega))
  have H2 := kH (H1.out.trans m2)
  clear m2 r2 tr2
  unfold An.val
  obtain ⟨z0, z1, z2, z3, zk0, zk1, zk2, zk3⟩ := HN.out.cells
  go_wp2_with fail
  exact bodyPost_ret (v := An.val n2) (by simp [results, Tryz.results95, go_sem, An.val, z0, z1, z2, z3]) rfl (NdPost.put (n := n2) (by unfold unlessP; rw [if_neg HC.out]; exact HR2.out) H2.out (HT2.out) HK.out)
end Go.Proofs.YtmbfdkiejneheaaGreatDoor

namespace Go.Proofs.YtmbfdkiejneheaaGreatDoor
open Go.RowKit

/-- The statements, of fewer tokens than m. -/
def OkS (reOk : List UInt8 → Bool) (K : Ps) (m : Nat) : Prop :=
 ∀ dp l er W, dp ≤ 50 → l.length < m → Pst W K l dp false er → Calls Tryz.prog 53 #[.pointer (some ⟨K.b, 0, none⟩)] W (NdPost K W W.heap.size l (stP reOk (50 - dp) l) dp false er)
set_option maxHeartbeats 8000000 in
set_option maxRecDepth 100000 in
theorem ptarget_any {reOk : List UInt8 → Bool} {K : Ps} (HRe : ReOk reOk) (dp : Nat) (l : List Tok) (er : ErO) (w : World) (hd : DpOk dp l) (h : Pst w K l dp false er) :
  Calls Tryz.prog 97 #[.pointer (some ⟨K.b, 0, none⟩)] w (NdPost K w w.heap.size l (targetP (rcP reOk (50 - dp)) reOk l) dp false er) := by
 have CT1 := kH (ptake_any K l dp false er [62])
 have CT2 := kH (ptake_any K l dp false er [62, 62])
 have CS := kH fun W hW => pside_any' (K := K) HRe dp false (nx l) er W (hd.suf h.tll.nx.1 h.tll.nx.2.1) hW
 have CM := kH fun o p n c W => pnode_any o p n c W
 have HTL := kH h.tll.nx
 have HNE := kH h.ne
 have HK : Hid (K.b < w.heap.size ∧ K.g < w.heap.size) := kH ⟨h.lt, h.glt⟩
 have HNZ : Hid (w.heap.size ≠ K.b) := kH (by have := HK.out; omega)
 have HN := kH (BlkA.new0 w)
 have H0 := kH ((Mv.refl h).alloc zN)
 have HSZ : Hid (w.heap.size + 1 = (w.alloc zN).heap.size) := kH (by simp)
 clear HRe hd h
 by_cases hc : fx l = [62]
 ·
  have HC := kH hc
  rw [if_pos hc, decide_eq_true hc] at CT1
  clear hc
  go_enter Tryz.func97, Tryz.ntmps97
  go_wp2_with fail
  generalize w.alloc zN = w0 at *
  refine (CT1.out _ H0.out.st).mono ?_
  rintro e w1 ⟨rfl, m1⟩
  have HN := kH (HN.out.onl m1.2 HNZ.out)
  have H1 := kH (H0.out.trans m1)
  clear m1
  go_wp2_with fail
  have HLT := kH HN.out.lt
  refine (CS.out _ H1.out.st).mono ?_
  rintro e w2 ⟨t2, n2, l2, er2, rfl, r2, m2, tr2⟩
  have HN := kH (HN.out.onl m2.2 HNZ.out)
  have HR2 := kH r2
  have HT2 := kH (tr2.low (B1 := w.heap.size + 1) (by have := HLT.out; omega))
  have H2 := kH (H1.out.trans m2)
  clear m2 r2 tr2
  unfold An.val
  have HRW := kH (RwA.new1 (w := w2) (B0 := w.heap.size + 1) HT2.out (by have := HN.out.lt; omega))
  have HN := kH (HN.out.alloc (nB n2))
  have H2 := kH (H2.out.alloc (nB n2))
  go_wp2_with fail
  refine (CM.out _ _ _ _ _).mono ?_
  rintro e w3 ⟨rfl, hb3⟩
  have HRW := kH (HRW.out.below hb3)
  have HN := kH (HN.out.below hb3)
  have H3 := kH (H2.out.below hb3)
  clear hb3
  unfold An.val
  obtain ⟨z0, z1, z2, z3, zk0, zk1, zk2, zk3⟩ := HN.out.cells
  go_wp2_with fail
  exact bodyPost_ret (v := An.val ⟨bs [116, 111], ⟨#[]⟩, 0, some ⟨w2.heap.size, 0, none⟩, 1, 1⟩) (by simp [results, Tryz.results97, go_sem, An.val, z0, z1, z2, z3] <;> rfl) rfl (NdPost.put (n := ⟨bs [116, 111], ⟨#[]⟩, 0, some ⟨w2.heap.size, 0, none⟩, 1, 1⟩) (by unfold targetP; rw [if_pos HC.out]; exact (HR2.out.bnd (Res.ret HR2.out.ne)).pre HTL.out.1) H3.out (HRW.out.nd [116, 111]) HK.out)
 ·
  have HC := kH hc
  rw [if_neg hc, decide_eq_false hc] at CT1
  clear hc
  by_cases hc : fx l = [62, 62]
  ·
   have HC2 := kH hc
   rw [if_pos hc, decide_eq_true hc] at CT2
   clear hc
   go_enter Tryz.func97, Tryz.ntmps97
   go_wp2_with fail
   generalize w.alloc zN = w0 at *
   refine (CT1.out _ H0.out.st).mono ?_
   rintro e w1 ⟨rfl, m1⟩
   have HN := kH (HN.out.onl m1.2 HNZ.out)
   have H1 := kH (H0.out.trans m1)
   clear m1
   go_wp2_with fail
   refine (CT2.out _ H1.out.st).mono ?_
   rintro e w2 ⟨rfl, m2⟩
   have HN := kH (HN.out.onl m2.2 HNZ.out)
   have H2 := kH (H1.out.trans m2)
   clear m2
   go_wp2_with fail
   have HLT := kH HN.out.lt
   refine (CS.out _ H2.out.st).mono ?_
   rintro e w3 ⟨t2, n2, l2, er2, rfl, r3, m3, tr2⟩
   have HN := kH (HN.out.onl m3.2 HNZ.out)
   have HR3 := kH r3
   have HT2 := kH (tr2.low (B1 := w.heap.size + 1) (by have := HLT.out; omega))
   have H3 := kH (H2.out.trans m3)
   clear m3 r3 tr2
   unfold An.val
   have HRW := kH (RwA.new1 (w := w3) (B0 := w.heap.size + 1) HT2.out (by have := HN.out.lt; omega))
   have HN := kH (HN.out.alloc (nB n2))
   have H3 := kH (H3.out.alloc (nB n2))
   go_wp2_with fail
   refine (CM.out _ _ _ _ _).mono ?_
   rintro e w4 ⟨rfl, hb4⟩
   have HRW := kH (HRW.out.below hb4)
   have HN := kH (HN.out.below hb4)
   have H4 := kH (H3.out.below hb4)
   clear hb4
   unfold An.val
   obtain ⟨z0, z1, z2, z3, zk0, zk1, zk2, zk3⟩ := HN.out.cells
   go_wp2_with fail
   exact bodyPost_ret (v := An.val ⟨bs [97, 112, 112, 101, 110, 100], ⟨#[]⟩, 0, some ⟨w3.heap.size, 0, none⟩, 1, 1⟩) (by simp [results, Tryz.results97, go_sem, An.val, z0, z1, z2, z3] <;> rfl) rfl (NdPost.put (n := ⟨bs [97, 112, 112, 101, 110, 100], ⟨#[]⟩, 0, some ⟨w3.heap.size, 0, none⟩, 1, 1⟩) (by unfold targetP; rw [if_neg HC.out, if_pos HC2.out]; exact (HR3.out.bnd (Res.ret HR3.out.ne)).pre HTL.out.1) H4.out (HRW.out.nd [97, 112, 112, 101, 110, 100]) HK.out)
  ·
   have HC2 := kH hc
   rw [if_neg hc, decide_eq_false hc] at CT2
   clear hc
   go_enter Tryz.func97, Tryz.ntmps97
   go_wp2_with fail
   generalize w.alloc zN = w0 at *
   refine (CT1.out _ H0.out.st).mono ?_
   rintro e w1 ⟨rfl, m1⟩
   have HN := kH (HN.out.onl m1.2 HNZ.out)
   have H1 := kH (H0.out.trans m1)
   clear m1
   go_wp2_with fail
   refine (CT2.out _ H1.out.st).mono ?_
   rintro e w2 ⟨rfl, m2⟩
   have HN := kH (HN.out.onl m2.2 HNZ.out)
   have H2 := kH (H1.out.trans m2)
   clear m2
   go_wp2_with fail
   refine (CM.out _ _ _ _ _).mono ?_
   rintro e w3 ⟨rfl, hb3⟩
   have HN := kH (HN.out.below hb3)
   have H3 := kH (H2.out.below hb3)
   clear hb3
   unfold An.val
   obtain ⟨z0, z1, z2, z3, zk0, zk1, zk2, zk3⟩ := HN.out.cells
   go_wp2_with fail
   exact bodyPost_ret (v := An.val ⟨bs oNone, ⟨#[]⟩, 0, none, 0, 0⟩) (by simp [results, Tryz.results97, go_sem, An.val, z0, z1, z2, z3] <;> rfl) rfl (NdPost.put (n := ⟨bs oNone, ⟨#[]⟩, 0, none, 0, 0⟩) (by unfold targetP; rw [if_neg HC.out, if_neg HC2.out]; exact Res.ret HNE.out) H3.out (TreeP.leaf _ _ oNone [] 0) HK.out)
set_option maxHeartbeats 8000000 in
set_option maxRecDepth 100000 in
theorem pbody_any {reOk : List UInt8 → Bool} {K : Ps} {m : Nat} (IS : OkS reOk K m) (dp : Nat) (l : List Tok) (er : ErO) (w : World) (hd : dp ≤ 50) (hl : l.length < m) (h : Pst w K l dp false er) :
  Calls Tryz.prog 68 #[.pointer (some ⟨K.b, 0, none⟩)] w (NdPost K w w.heap.size l (bodyP (stP reOk (50 - dp)) l) dp false er) := by
 have CL := kH (pnls_any K l dp false er)
 have CS := kH fun W hW => IS dp (nlsP l) er W hd (Nat.lt_of_le_of_lt h.tll.nls.1.length_le hl) hW
 have HTL := kH h.tll.nls
 have HK : Hid (K.b < w.heap.size ∧ K.g < w.heap.size) := kH ⟨h.lt, h.glt⟩
 have HNZ : Hid (w.heap.size ≠ K.b) := kH (by have := HK.out; omega)
 have HN := kH (BlkA.new0 w)
 have H0 := kH ((Mv.refl h).alloc zN)
 have HSZ : Hid (w.heap.size + 1 = (w.alloc zN).heap.size) := kH (by simp)
 clear IS hd hl h
 go_enter Tryz.func68, Tryz.ntmps68
 go_wp2_with fail
 generalize w.alloc zN = w0 at *
 refine (CL.out _ H0.out.st).mono ?_
 rintro e w1 ⟨rfl, m1⟩
 have HN := kH (HN.out.onl m1.2 HNZ.out)
 have H1 := kH (H0.out.trans m1)
 clear m1
 go_wp2_with fail
 have HLT := kH HN.out.lt
 refine (CS.out _ H1.out.st).mono ?_
 rintro e w2 ⟨t2, n2, l2, er2, rfl, r2, m2, tr2⟩
 have HN := kH (HN.out.onl m2.2 HNZ.out)
 have HR2 := kH r2
 have HT2 := kH (tr2.low (B1 := w.heap.size + 1) (by have := HLT.out; omega))
 have H2 := kH (H1.out.trans m2)
 clear m2 r2 tr2
 unfold An.val
 obtain ⟨z0, z1, z2, z3, zk0, zk1, zk2, zk3⟩ := HN.out.cells
 go_wp2_with fail
 exact bodyPost_ret (v := An.val n2) (by simp [results, Tryz.results68, go_sem, An.val, z0, z1, z2, z3]) rfl (NdPost.put (n := n2) (by unfold bodyP; exact HR2.out.pre HTL.out.1) H2.out (HT2.out) HK.out)
theorem choice_eq (R : Rc) (S : List Tok → TR PT) (l : List Tok) : choiceP R S l = bnd (withinP [40] (singleP (R.E false)) [41] l) fun ts l2 => bnd (bodyP S l2) fun y l3 => match elseP l3 with
  | some l4 => bnd (bodyP S l4) fun z l5 => .ok (nd [105, 102] (ts ++ [y] ++ [z]), l5)
  | none => .ok (nd [105, 102] (ts ++ [y]), l3) := by
 unfold choiceP
 rw [within_single, bnd_assoc]
 simp only [bnd_ok]
 rfl
set_option maxHeartbeats 8000000 in
set_option maxRecDepth 100000 in
theorem pchoice_any {reOk : List UInt8 → Bool} {K : Ps} {m : Nat} (HRe : ReOk reOk) (IS : OkS reOk K m) (dp : Nat) (l : List Tok) (er : ErO) (w : World) (hd : dp ≤ 50) (hl : l.length < m) (h : Pst w K l dp false er) :
  Calls Tryz.prog 66 #[.pointer (some ⟨K.b, 0, none⟩)] w (NdPost K w w.heap.size l (choiceP (rcP reOk (50 - dp)) (stP reOk (50 - dp)) l) dp false er) := by
 have CW := kH fun W hW => pwithin_any (K := K) (f := 67) cfS (G := singleP ((rcP reOk (50 - dp)).E false)) (l := l) (m := m) (fun l2 er2 W2 _ h2 hw => psingle_any (pexpr_all HRe m).1 dp false l2 er2 W2 hd h2 hw) [40] [41] false er W (.inl hl) hW
 have CB := kH fun l1 er1 W (hs : l1 <:+ l) hW => pbody_any IS dp l1 er1 W hd (Nat.lt_of_le_of_lt hs.length_le hl) hW
 have CE := kH fun l1 er1 => pelse_any K l1 dp false er1
 have CM := kH fun o p n c W => pnode_any o p n c W
 have HLN : Hid (l.length ≤ 5000) := kH (by have := h.pos; omega)
 obtain ⟨i0, hi, hz0, hz1, hz2⟩ := info_parts Tryz.infoAst
 have HK : Hid (K.b < w.heap.size ∧ K.g < w.heap.size) := kH ⟨h.lt, h.glt⟩
 have HNZ : Hid (w.heap.size ≠ K.b) := kH (by have := HK.out; omega)
 have HN := kH (BlkA.new0 w)
 have H0 := kH ((Mv.refl h).alloc zN)
 have HSZ : Hid (w.heap.size + 1 = (w.alloc zN).heap.size) := kH (by simp)
 clear IS HRe hd hl h
 go_enter Tryz.func66, Tryz.ntmps66
 go_wp2_with fail
 generalize w.alloc zN = w0 at *
 have HLT := kH HN.out.lt
 refine (CW.out _ H0.out.st).mono ?_
 rintro e w1 ⟨ts, ns, p, c, l1, er1, rfl, r1, m1, rw1, ln1⟩
 have HN := kH (HN.out.onl m1.2 HNZ.out)
 have HR1 := kH r1
 have HRW := kH (rw1.low (n1 := w.heap.size + 1) (by have := HLT.out; omega))
 have HNS : Hid (ns.length ≤ 5500) := kH (by have := HLN.out; omega)
 have H1 := kH (H0.out.trans m1)
 clear m1 r1 rw1 ln1
 go_wp2_with fail
 have HRV : Hid (∀ g, (Value.slice p (ns.length) c).ownBlock = some g → w.heap.size + 1 ≤ g ∧ g < w1.heap.size) := kH (rg_own_base HRW.out.own)
 have HRB : Hid (w.heap.size + 1 ≤ w1.heap.size) := kH HN.out.lt
 have HLT := kH HN.out.lt
 refine (CB.out _ _ _ (HR1.out.suf) H1.out.st).mono ?_
 rintro e w2 ⟨t2, n2, l2, er2, rfl, r2, m2, tr2⟩
 have HN := kH (HN.out.onl m2.2 HNZ.out)
 have HRW := kH (HRW.out.onl m2.2 (by have := HK.out; omega))
 have HR2 := kH r2
 have HT2 := kH tr2
 have H2 := kH (H1.out.trans m2)
 clear m2 r2 tr2
 unfold An.val

 have HOW : Hid (w2.ownsRow (w.heap.size + 1) 25 4 (.slice p (ns.length) c) (ns.length) (anRow (ns))) := kH HRW.out.own
 have HLT := kH HN.out.lt
 go_wp2_with (at_builtin; refine wpList_append_own_at _ rfl (.tmp 7) (.tmp 10) 23 rfl (w.heap.size + 1) 25 i0 (.agg #[.string ⟨#[]⟩, .string ⟨#[]⟩, .int .i64 0, .slice none 0 0]) 4 64 Tryz.underlying23 hi hz0 hz1 hz2 rfl (by decide) (.slice p (ns.length) c) (ns.length) (anRow (ns)) rfl (HOW.out.alloc _) ⟨w2.heap.size, 0, none⟩ 1 1 (An.vals n2) rfl rfl ?c1 ?c2 ?c3 ?c4 ?c5 ?_)
 case c1 => exact an_new w2 n2
 case c2 => simp [An.vals, Value.oneCell']
 case c3 => have := HNS.out; unfold maxLen; omega
 case c4 => have := HNS.out; omega
 case c5 => have := HLT.out; simp; omega
 intro v3 w3 hown hgrow _ hat
 obtain ⟨g3, c3, rfl, hc9⟩ := rg_own_succ hown
 have hA := RwA.app HRW.out HT2.out (fun g hg => (HRV.out g hg).2) (HRB.out) hgrow hat hown
 have hM := Mv.app H2.out HK.out (fun g hg => by have := (HRV.out g hg).1; omega) hgrow
 have hN : BlkA w3 w.heap.size An.zero := ((grown_at hgrow (by have := HLT.out; simp; omega) (fun e => by have := (HRV.out _ e).1; omega)).trans (Below.heap_alloc w2 _ _ HLT.out)).trans HN.out
 have hL : (ns ++ [n2]).length = ns.length + 1 := by rw [List.length_append, List.length_singleton]
 have H3 := kH hM
 have HN := kH hN
 have HRW := kH hA
 have HLHRW := kH hL
 clear hA hM hN hL hown hgrow hat hc9 HOW HRV HRB
 go_wp2_with fail
 have CE := kH (CE.out l2 er2)
 have HSL := kH (HR2.out.suf.trans HR1.out.suf)
 cases he : elseP l2 with
 | none =>
  have HE := kH he
  rw [he] at CE
  clear he
  refine (CE.out _ H3.out.st).mono ?_
  rintro e w4 ⟨rfl, m4⟩
  have HRW := kH (HRW.out.onl m4.2 (by have := HK.out; omega))
  have HN := kH (HN.out.onl m4.2 HNZ.out)
  have H4 := kH (H3.out.trans m4)
  clear m4
  go_wp2_with fail
  refine (CM.out _ _ _ _ _).mono ?_
  rintro e w5 ⟨rfl, hb5⟩
  have HRW := kH (HRW.out.below hb5)
  have HN := kH (HN.out.below hb5)
  have H5 := kH (H4.out.below hb5)
  clear hb5
  unfold An.val
  have HTF : Hid (TreeP w5 (fun k => w.heap.size + 1 ≤ k) (nd [105, 102] (ts ++ [t2])) ⟨bs [105, 102], ⟨#[]⟩, 0, (some ⟨g3, 0, none⟩), ns.length + 1, c3⟩) := kH (by have := RwA.nd (by have := HRW.out; rw [← HLHRW.out] at this; exact this) [105, 102]; rw [HLHRW.out] at this; exact this)
  obtain ⟨z0, z1, z2, z3, zk0, zk1, zk2, zk3⟩ := HN.out.cells
  go_wp2_with fail
  exact bodyPost_ret (v := An.val ⟨bs [105, 102], ⟨#[]⟩, 0, (some ⟨g3, 0, none⟩), ns.length + 1, c3⟩) (by simp [results, Tryz.results66, go_sem, An.val, z0, z1, z2, z3] <;> rfl) rfl (NdPost.put (n := ⟨bs [105, 102], ⟨#[]⟩, 0, (some ⟨g3, 0, none⟩), ns.length + 1, c3⟩) (by rw [choice_eq]; exact HR1.out.bnd (HR2.out.bnd (by rw [HE.out]; exact Res.ret HR2.out.ne))) H5.out (HTF.out) HK.out)
 | some l4 =>
  have HE := kH he
  have HLE := kH (else_good H3.out.st.tll he)
  rw [he] at CE
  clear he
  refine (CE.out _ H3.out.st).mono ?_
  rintro e w4 ⟨rfl, m4⟩
  have HRW := kH (HRW.out.onl m4.2 (by have := HK.out; omega))
  have HN := kH (HN.out.onl m4.2 HNZ.out)
  have H4 := kH (H3.out.trans m4)
  clear m4
  go_wp2_with fail
  have HRV : Hid (∀ g, (Value.slice (some ⟨g3, 0, none⟩) (ns.length + 1) c3).ownBlock = some g → w.heap.size + 1 ≤ g ∧ g < w4.heap.size) := kH (rg_own_base HRW.out.own)
  have HRB : Hid (w.heap.size + 1 ≤ w4.heap.size) := kH HN.out.lt
  have HLT := kH HN.out.lt
  refine (CB.out _ _ _ (HLE.out.1.trans HSL.out) H4.out.st).mono ?_
  rintro e w5 ⟨t5, n5, l5, er5, rfl, r5, m5, tr5⟩
  have HN := kH (HN.out.onl m5.2 HNZ.out)
  have HRW := kH (HRW.out.onl m5.2 (by have := HK.out; omega))
  have HR5 := kH r5
  have HT5 := kH tr5
  have H5 := kH (H4.out.trans m5)
  clear m5 r5 tr5
  unfold An.val
  have HOW : Hid (w5.ownsRow (w.heap.size + 1) 25 4 (.slice (some ⟨g3, 0, none⟩) (ns.length + 1) c3) (ns.length + 1) (anRow (ns ++ [n2]))) := kH (by have := HRW.out.own; rw [HLHRW.out] at this; exact this)
  have HLT := kH HN.out.lt
  go_wp2_with (at_builtin; refine wpList_append_own_at _ rfl (.tmp 14) (.tmp 17) 23 rfl (w.heap.size + 1) 25 i0 (.agg #[.string ⟨#[]⟩, .string ⟨#[]⟩, .int .i64 0, .slice none 0 0]) 4 64 Tryz.underlying23 hi hz0 hz1 hz2 rfl (by decide) (.slice (some ⟨g3, 0, none⟩) (ns.length + 1) c3) (ns.length + 1) (anRow (ns ++ [n2])) rfl (HOW.out.alloc _) ⟨w5.heap.size, 0, none⟩ 1 1 (An.vals n5) rfl rfl ?c1 ?c2 ?c3 ?c4 ?c5 ?_)
  case c1 => exact an_new w5 n5
  case c2 => simp [An.vals, Value.oneCell']
  case c3 => have := HNS.out; unfold maxLen; omega
  case c4 => have := HNS.out; omega
  case c5 => have := HLT.out; simp; omega
  intro v6 w6 hown hgrow _ hat
  obtain ⟨g6, c6, rfl, hc9⟩ := rg_own_succ hown
  have hA := RwA.app (ns := ns ++ [n2]) (by have := HRW.out; exact this) HT5.out (fun g hg => (HRV.out g hg).2) (HRB.out) hgrow hat (by rw [HLHRW.out]; exact hown)
  have hM := Mv.app H5.out HK.out (fun g hg => by have := (HRV.out g hg).1; omega) hgrow
  have hN : BlkA w6 w.heap.size An.zero := ((grown_at hgrow (by have := HLT.out; simp; omega) (fun e => by have := (HRV.out _ e).1; omega)).trans (Below.heap_alloc w5 _ _ HLT.out)).trans HN.out
  have hL : (ns ++ [n2] ++ [n5]).length = ns.length + 1 + 1 := by rw [List.length_append, List.length_singleton, HLHRW.out]
  have H6 := kH hM
  have HN := kH hN
  have HRW := kH hA
  have HLHRW := kH hL
  clear hA hM hN hL hown hgrow hat hc9 HOW HRV HRB
  go_wp2_with fail
  refine (CM.out _ _ _ _ _).mono ?_
  rintro e w7 ⟨rfl, hb7⟩
  have HRW := kH (HRW.out.below hb7)
  have HN := kH (HN.out.below hb7)
  have H7 := kH (H6.out.below hb7)
  clear hb7
  unfold An.val
  have HTF : Hid (TreeP w7 (fun k => w.heap.size + 1 ≤ k) (nd [105, 102] (ts ++ [t2] ++ [t5])) ⟨bs [105, 102], ⟨#[]⟩, 0, (some ⟨g6, 0, none⟩), ns.length + 1 + 1, c6⟩) := kH (by have := RwA.nd (by have := HRW.out; rw [← HLHRW.out] at this; exact this) [105, 102]; rw [HLHRW.out] at this; exact this)
  obtain ⟨z0, z1, z2, z3, zk0, zk1, zk2, zk3⟩ := HN.out.cells
  go_wp2_with fail
  exact bodyPost_ret (v := An.val ⟨bs [105, 102], ⟨#[]⟩, 0, (some ⟨g6, 0, none⟩), ns.length + 1 + 1, c6⟩) (by simp [results, Tryz.results66, go_sem, An.val, z0, z1, z2, z3] <;> rfl) rfl (NdPost.put (n := ⟨bs [105, 102], ⟨#[]⟩, 0, (some ⟨g6, 0, none⟩), ns.length + 1 + 1, c6⟩) (by rw [choice_eq]; exact HR1.out.bnd (HR2.out.bnd (by rw [HE.out]; exact (HR5.out.bnd (Res.ret HR5.out.ne)).pre HLE.out.1))) H7.out (HTF.out) HK.out)
end Go.Proofs.YtmbfdkiejneheaaGreatDoor

namespace Go.Proofs.YtmbfdkiejneheaaGreatDoor
open Go.RowKit

/-- A block's statements, behind what separates them. -/
def blockB (S : List Tok → TR PT) : Nat → List Tok → List PT → TR PT
 | 0, _, _ => .error (0, 0)
 | n + 1, l, ts => if fx l = [125] then .ok (nd [98, 108, 111, 99, 107] ts, nx l) else bnd (S l) fun t l2 => blockL S n l2 (ts ++ [t])
theorem blockB_succ (S : List Tok → TR PT) (n : Nat) (l : List Tok) (ts : List PT) : blockB S (n + 1) l ts = if fx l = [125] then .ok (nd [98, 108, 111, 99, 107] ts, nx l) else bnd (S l) fun t l2 => blockL S n l2 (ts ++ [t]) := rfl
theorem blockB_eq (S : List Tok → TR PT) (n : Nat) (l : List Tok) (ts : List PT) : blockL S n l ts = blockB S n (sepsP l) ts := by
 cases n with
 | zero => rfl
 | succ n => rfl
theorem tl_one {l : List Tok} (hl : Tl l) (h1 : l.length = 1) : fx l = [] ∧ (tk l).k = 0 := by
 have h := fx_lst hl
 have : lst l = l := by unfold lst; rw [h1]; rfl
 rwa [this] at h
theorem blockB_end {S : List Tok → TR PT} (hS : Good true S) (n : Nat) (l : List Tok) (ts : List PT) (hl : Tl l) (h1 : l.length = 1) : ∃ e, blockB S n l ts = .error e := by
 cases n with
 | zero => exact ⟨_, rfl⟩
 | succ n =>
  rw [blockB_succ, (tl_one hl h1).1, if_neg (by simp)]
  have hg := hS l hl
  cases hx : S l with
  | error e => exact ⟨e, rfl⟩
  | ok x =>
   obtain ⟨t, l2⟩ := x
   rw [hx] at hg
   have h2 := hg.2.2 rfl
   have h3 := List.length_pos_iff.2 hg.2.1
   omega
def erB (er : ErO) : Nat := match er with | none => 1 | some _ => 0
theorem erB_le (er : ErO) : erB er ≤ 1 := by cases er <;> simp [erB]
structure BlSt (K : Ps) (w : World) (S : List Tok → TR PT) (m : Nat) (X : TR PT) (l : List Tok) (dp : Nat) (er : ErO) (gk : Nat) (ns : List An) (v : Value) (wr : World) : Prop where
 ex : ∃ ts l1 er1 k, l1.length < m ∧ 2 * l1.length + erB er1 ≤ gk ∧ (er1 = none → l1.length < k) ∧ Mv K w l1 dp false er1 wr ∧ BlkA wr w.heap.size An.zero ∧ RwA wr (w.heap.size + 1) ts ns v ∧ ns.length + l1.length + erB er1 ≤ 5002 ∧ (∀ a l2 er2, Res (blockB S k l1 ts) l1 er1 a l2 er2 → Res X l er a l2 er2)
set_option maxHeartbeats 8000000 in
set_option maxRecDepth 100000 in
theorem pblock_any {reOk : List UInt8 → Bool} {K : Ps} {m : Nat} (IS : OkS reOk K m) (dp : Nat) (l : List Tok) (er : ErO) (w : World) (hd : dp ≤ 50) (hW : l.length < m ∨ (fx l = [123] ∧ l.length ≤ m)) (h : Pst w K l dp false er) :
  Calls Tryz.prog 40 #[.pointer (some ⟨K.b, 0, none⟩)] w (NdPost K w w.heap.size l (blockP (stP reOk (50 - dp)) l) dp false er) := by
 have hgS := good_st reOk (50 - dp)
 have CW := kH fun W hW => pwant_any K l dp false er [123] W hW
 have CP := kH fun l1 er1 => pseps_any K l1 dp false er1
 have CT := kH fun l1 er1 => ptake_any K l1 dp false er1 [125]
 have CS := kH fun l1 er1 W (hs : l1.length < m) hW => IS dp l1 er1 W hd hs hW
 have CM := kH fun o p n c W => pnode_any o p n c W
 have HGS := kH hgS
 have HW := kH hW
 have HTL := kH h.tll
 have HLN : Hid (l.length ≤ 5000) := kH (by have := h.pos; omega)
 obtain ⟨i0, hi, hz0, hz1, hz2⟩ := info_parts Tryz.infoAst
 have HK : Hid (K.b < w.heap.size ∧ K.g < w.heap.size) := kH ⟨h.lt, h.glt⟩
 have HNZ : Hid (w.heap.size ≠ K.b) := kH (by have := HK.out; omega)
 have HN := kH (BlkA.new0 w)
 have H0 := kH ((Mv.refl h).alloc zN)
 have HSZ : Hid (w.heap.size + 1 = (w.alloc zN).heap.size) := kH (by simp)
 clear IS hd hW h hgS
 go_enter Tryz.func40, Tryz.ntmps40
 go_wp2_with fail
 generalize w.alloc zN = w0 at *
 have HLT := kH HN.out.lt
 refine (CW.out _ H0.out.st).mono ?_
 rintro e w1 ⟨l1, er1, rfl, r1, m1⟩
 have HN := kH (HN.out.onl m1.2 HNZ.out)
 have HR1 := kH r1
 have H1 := kH (H0.out.trans m1)
 clear m1 r1
 have HL1 : Hid (l1.length < m ∧ Tl l1) := kH (by
  refine ⟨?_, H1.out.st.tll⟩
  rcases HW.out with h1 | ⟨h1, h3⟩
  ·
   have := HR1.out.suf.length_le; omega
  ·
   have h2 := HTL.out.nx.2.2.2 (fx_kind h1 (by simp))
   rcases HR1.out.alt with ⟨h4, _⟩ | ⟨e, _, _, h4⟩
   ·
    unfold wantP at h4
    rw [if_pos h1] at h4
    injection h4 with h4
    injection h4 with _ h4
    rw [h4] at h2
    omega
   ·
    have := HTL.out.nx.2.2.1.pos
    omega)
 go_wp2_with fail
 refine (CP.out l1 er1 _ H1.out.st).mono ?_
 rintro e w2 ⟨rfl, m2⟩
 have HN := kH (HN.out.onl m2.2 HNZ.out)
 have H2 := kH (H1.out.trans m2)
 clear m2
 have HI : Hid (BlSt K w (stP reOk (50 - dp)) m (blockP (stP reOk (50 - dp)) l) l dp er (2 * l.length + 1) [] (.slice none 0 0) w2) := kH ⟨[], sepsP l1, er1, l1.length + 1, by have := HL1.out.2.seps.1.length_le; have := HL1.out.1; omega, by have := HL1.out.2.seps.1.length_le; have := HR1.out.suf.length_le; have := erB_le er1; omega, fun _ => by have := HL1.out.2.seps.1.length_le; omega, H2.out, HN.out, RwA.nil _ _, by have := HL1.out.2.seps.1.length_le; have := HR1.out.suf.length_le; have := HLN.out; have := erB_le er1; simp; omega, fun a l2 er2 k => HR1.out.bnd (by rw [blockB_eq]; exact k.pre HL1.out.2.seps.1)⟩
 clear H1 H2 HR1 HL1 HN HLT H0
 go_wp2_with fail

 go_loopg [3] (2 * l.length + 1) (fun gk v3 wr => ∃ (p : Option Addr) (c : Nat) (ns : List An), v3 = .slice p ns.length c ∧ Hid (BlSt K w (stP reOk (50 - dp)) m (blockP (stP reOk (50 - dp)) l) l dp er gk ns (.slice p ns.length c) wr))
 case atStart => exact ⟨none, 0, [], rfl, HI⟩
 case round =>
  clear HI
  obtain ⟨p, c, ns, rfl, HS⟩ := hrel
  obtain ⟨ts, l1, er1, k, hlm, hgk, hk, hmv, hz, hrw, hcnt, hres⟩ := HS.out.ex
  have HN := kH hz
  have HRW := kH hrw
  have H2 := kH hmv
  have CT := kH (CT.out l1 er1)
  obtain ⟨c0, c1, c2, c3, c4, c5, f1, f2, f3, f4, f5⟩ := hmv.st.rd.cells
  cases er1 with
  | some e0 =>
   have HX : Hid (Res (blockP (stP reOk (50 - dp)) l) l er (nd [98, 108, 111, 99, 107] ts) l1 (some e0)) := kH (hres _ _ _ (by
    obtain ⟨e1, he1⟩ := blockB_end HGS.out k l1 ts hmv.st.tll (hmv.st.dead (by simp))
    exact ⟨List.suffix_refl _, hmv.st.ne, .inr ⟨e1, he1, rfl, hmv.st.dead (by simp)⟩⟩))
   have hcd := hmv.st.code e0 rfl
   simp only [Option.getD_some] at c5
   have hz0 : ((e0.2 : Int) == 0) = false := by rw [beq_eq_false_iff_ne]; omega
   clear hlm hgk hk hmv hz hrw hcnt hres HS hcd
   go_wp2_with fail
   refine (CM.out _ _ _ _ _).mono ?_
   rintro e w3 ⟨rfl, hb3⟩
   have HN := kH (HN.out.below hb3)
   have HRW := kH (HRW.out.below hb3)
   have H3 := kH (H2.out.below hb3)
   clear hb3
   unfold An.val
   obtain ⟨z0, z1, z2, z3, zk0, zk1, zk2, zk3⟩ := HN.out.cells
   go_wp2_with fail
   exact bodyPost_ret (v := An.val ⟨bs [98, 108, 111, 99, 107], ⟨#[]⟩, 0, p, ns.length, c⟩) (by simp [results, Tryz.results40, go_sem, An.val, z0, z1, z2, z3] <;> rfl) rfl (NdPost.put (n := ⟨bs [98, 108, 111, 99, 107], ⟨#[]⟩, 0, p, ns.length, c⟩) (HX.out) H3.out (HRW.out.nd [98, 108, 111, 99, 107]) HK.out)
  | none =>
   simp only [Option.getD_none] at c5
   by_cases hb : fx l1 = [125]
   ·
    have HX : Hid (Res (blockP (stP reOk (50 - dp)) l) l er (nd [98, 108, 111, 99, 107] ts) (nx l1) none) := kH (hres _ _ _ (by
     have hk2 := hk rfl
     obtain ⟨k, rfl⟩ : ∃ j, k = j + 1 := ⟨k - 1, by omega⟩
     rw [blockB_succ, if_pos hb]
     exact Res.ret' hmv.st.tll.nx.1 hmv.st.tll.nx.2.1))
    rw [if_pos hb, decide_eq_true hb] at CT
    clear hlm hgk hk hmv hz hrw hcnt hres HS hb
    go_wp2_with fail
    refine (CT.out _ H2.out.st).mono ?_
    rintro e w3 ⟨rfl, m3⟩
    have HN := kH (HN.out.onl m3.2 HNZ.out)
    have HRW := kH (HRW.out.onl m3.2 (by have := HK.out; omega))
    have H3 := kH (H2.out.trans m3)
    clear m3
    go_wp2_with fail
    refine (CM.out _ _ _ _ _).mono ?_
    rintro e w4 ⟨rfl, hb4⟩
    have HN := kH (HN.out.below hb4)
    have HRW := kH (HRW.out.below hb4)
    have H4 := kH (H3.out.below hb4)
    clear hb4
    unfold An.val
    obtain ⟨z0, z1, z2, z3, zk0, zk1, zk2, zk3⟩ := HN.out.cells
    go_wp2_with fail
    exact bodyPost_ret (v := An.val ⟨bs [98, 108, 111, 99, 107], ⟨#[]⟩, 0, p, ns.length, c⟩) (by simp [results, Tryz.results40, go_sem, An.val, z0, z1, z2, z3] <;> rfl) rfl (NdPost.put (n := ⟨bs [98, 108, 111, 99, 107], ⟨#[]⟩, 0, p, ns.length, c⟩) (HX.out) H4.out (HRW.out.nd [98, 108, 111, 99, 107]) HK.out)
   ·
    have HRS : Hid (∀ t l2 er2, Res ((stP reOk (50 - dp)) l1) l1 none t l2 er2 → (sepsP l2).length < m ∧ 2 * (sepsP l2).length + erB er2 ≤ gk - 1 ∧ gk - 1 < gk ∧ (er2 = none → (sepsP l2).length < k - 1) ∧ ns.length + 1 + (sepsP l2).length + erB er2 ≤ 5002 ∧ ∀ a l3 er3, Res (blockB (stP reOk (50 - dp)) (k - 1) (sepsP l2) (ts ++ [t])) (sepsP l2) er2 a l3 er3 → Res (blockP (stP reOk (50 - dp)) l) l er a l3 er3) := kH (by
     intro t l2 er2 hr
     have hs := hmv.st.tll.suf hr.suf hr.ne
     have h5 := hs.seps
     have h6 := h5.1.length_le
     have h7 := hr.suf.length_le
     have h10 : l2.length < l1.length ∨ (l2.length = 1 ∧ erB er2 = 0) := by
      rcases hr.alt with ⟨hx, rfl⟩ | ⟨e, hx, rfl, h9⟩
      ·
       have hg := HGS.out l1 hmv.st.tll
       rw [hx] at hg
       exact .inl (hg.2.2 rfl)
      ·
       exact .inr ⟨h9, rfl⟩
     have he1 : erB (none : ErO) = 1 := rfl
     have he2 := erB_le er2
     have hp1 := List.length_pos_iff.2 hmv.st.ne
     rw [he1] at hgk hcnt
     have hk2 := hk rfl
     refine ⟨by omega, ?_, by omega, fun e => ?_, ?_, fun a l3 er3 h11 => hres a l3 er3 ?_⟩
     ·
      rcases h10 with h | ⟨h, h0⟩ <;> omega
     ·
      rcases h10 with h | ⟨_, h0⟩
      ·
       omega
      ·
       rw [e] at h0; cases h0
     ·
      rcases h10 with h | ⟨h, h0⟩ <;> omega
     ·
      obtain ⟨k, rfl⟩ : ∃ j, k = j + 1 := ⟨k - 1, by omega⟩
      rw [blockB_succ, if_neg hb]
      exact hr.bnd (by rw [blockB_eq]; exact h11.pre h5.1))
    have HLM := kH hlm
    have HNS : Hid (ns.length ≤ 5500) := kH (by omega)
    rw [if_neg hb, decide_eq_false hb] at CT
    clear hlm hgk hk hmv hz hrw hcnt hres HS hb
    go_wp2_with fail
    refine (CT.out _ H2.out.st).mono ?_
    rintro e w3 ⟨rfl, m3⟩
    have HN := kH (HN.out.onl m3.2 HNZ.out)
    have HRW := kH (HRW.out.onl m3.2 (by have := HK.out; omega))
    have H3 := kH (H2.out.trans m3)
    clear m3
    go_wp2_with fail
    have HRV : Hid (∀ g, (Value.slice p ns.length c).ownBlock = some g → w.heap.size + 1 ≤ g ∧ g < w3.heap.size) := kH (rg_own_base HRW.out.own)
    have HRB : Hid (w.heap.size + 1 ≤ w3.heap.size) := kH HN.out.lt
    have HLT := kH HN.out.lt
    refine (CS.out _ _ _ HLM.out H3.out.st).mono ?_
    rintro e w4 ⟨t, n, l2, er2, rfl, r4, m4, tr⟩
    have HN := kH (HN.out.onl m4.2 HNZ.out)
    have HRW := kH (HRW.out.onl m4.2 (by have := HK.out; omega))
    have HR4 := kH r4
    have HT4 := kH tr
    have HRR := kH (HRS.out _ _ _ r4)
    have H4 := kH (H3.out.trans m4)
    clear m4 r4 tr
    unfold An.val
    clear HRS
    have HOW : Hid (w4.ownsRow (w.heap.size + 1) 25 4 (.slice p (ns.length) c) (ns.length) (anRow (ns))) := kH HRW.out.own
    have HLT := kH HN.out.lt
    go_wp2_with (at_builtin; refine wpList_append_own_at _ rfl (.tmp 20) (.tmp 23) 23 rfl (w.heap.size + 1) 25 i0 (.agg #[.string ⟨#[]⟩, .string ⟨#[]⟩, .int .i64 0, .slice none 0 0]) 4 64 Tryz.underlying23 hi hz0 hz1 hz2 rfl (by decide) (.slice p (ns.length) c) (ns.length) (anRow (ns)) rfl (HOW.out.alloc _) ⟨w4.heap.size, 0, none⟩ 1 1 (An.vals n) rfl rfl ?c1 ?c2 ?c3 ?c4 ?c5 ?_)
    case c1 => exact an_new w4 n
    case c2 => simp [An.vals, Value.oneCell']
    case c3 => have := HNS.out; unfold maxLen; omega
    case c4 => have := HNS.out; omega
    case c5 => have := HLT.out; simp; omega
    intro v5 w5 hown hgrow _ hat
    obtain ⟨g5, c5, rfl, hc9⟩ := rg_own_succ hown
    have hA := RwA.app HRW.out HT4.out (fun g hg => (HRV.out g hg).2) (HRB.out) hgrow hat hown
    have hM := Mv.app H4.out HK.out (fun g hg => by have := (HRV.out g hg).1; omega) hgrow
    have hN : BlkA w5 w.heap.size An.zero := ((grown_at hgrow (by have := HLT.out; simp; omega) (fun e => by have := (HRV.out _ e).1; omega)).trans (Below.heap_alloc w4 _ _ HLT.out)).trans HN.out
    have hL : (ns ++ [n]).length = ns.length + 1 := by rw [List.length_append, List.length_singleton]
    have H5 := kH hM
    have HN := kH hN
    have HRW := kH hA
    have HLHRW := kH hL
    clear hA hM hN hL hown hgrow hat hc9 HOW HRV HRB
    go_wp2_with fail
    refine (CP.out l2 er2 _ H5.out.st).mono ?_
    rintro e w6 ⟨rfl, m6⟩
    have HRW := kH (HRW.out.onl m6.2 (by have := HK.out; omega))
    have HN := kH (HN.out.onl m6.2 HNZ.out)
    have H6 := kH (H5.out.trans m6)
    clear m6
    go_wp2_with fail
    go_roundg (gk - 1)
    case measure => exact HRR.out.2.2.1
    case rel =>
     refine ⟨(some ⟨g5, 0, none⟩), c5, ns ++ [n], by rw [HLHRW.out], kH ?_⟩
     rw [HLHRW.out]
     exact ⟨ts ++ [t], sepsP l2, er2, k - 1, HRR.out.1, HRR.out.2.1, HRR.out.2.2.2.1, H6.out, HN.out, HRW.out, by rw [HLHRW.out]; exact HRR.out.2.2.2.2.1, HRR.out.2.2.2.2.2⟩
end Go.Proofs.YtmbfdkiejneheaaGreatDoor
