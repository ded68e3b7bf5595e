/-
 CONTRACTS of layer 13's simple.
-/
import Derived.Test.YtmbfdkiejneheaaGreatDoorPaX4
namespace Go.Proofs.YtmbfdkiejneheaaGreatDoor
open Go.RowKit

set_option maxHeartbeats 8000000 in
set_option maxRecDepth 100000 in
theorem pprinted_any {reOk : List UInt8 → Bool} {K : Ps} (HRe : ReOk reOk) (dp : Nat) (l : List Tok) (er : ErO) (w : World) (hd : dp ≤ 50) (h : Pst w K l dp false er) :
  Calls Tryz.prog 96 #[.pointer (some ⟨K.b, 0, none⟩)] w (RwPost K w l (printedP (rcP reOk (50 - dp)) l) dp false er) := by
 have CC := kH (pcomes_any K l dp false er [40])
 have CB := kH fun W hW => pbrack_any K l dp false er W hW
 have CE := kH (pends_any K l dp false er)
 have CT := kH (ptargc_any K l dp false er)
 have CL := kH fun W hW => plist_any (K := K) (m := l.length + 1) (pexpr_all HRe (l.length + 1)).1 dp false l er W hd (Nat.lt_succ_self _) hW
 have CR := kH fun W (hW : Pst W K l dp true er) => prow_any (f := 59) cfE (G := (rcP reOk (50 - dp)).E true) (l := l) (fun l1 er1 W1 _ hw => pexpr_any' HRe dp true l1 er1 W1 hd hw) er W hW
 have HNE := kH h.ne
 have HK : Hid (K.b < w.heap.size ∧ K.g < w.heap.size) := kH ⟨h.lt, h.glt⟩
 have H0 := kH (Mv.refl h)
 clear h hd HRe
 by_cases hc : fx l = [40]
 ·
  rw [decide_eq_true hc] at CC
  cases hb : bracketP (l.length + 1) l 0 with
  | true =>
   have HX : Hid (printedP (rcP reOk (50 - dp)) l = listP ((rcP reOk (50 - dp)).E false) l) := kH (by unfold printedP; rw [if_pos ⟨hc, hb⟩])
   rw [hb] at CB
   clear hc hb
   go_enter Tryz.func96, Tryz.ntmps96
   go_wp2_with fail
   refine (CC.out _ H0.out.st).mono ?_
   rintro e w1 ⟨rfl, m1⟩
   have H1 := kH (H0.out.trans m1)
   clear m1
   go_wp2_with fail
   refine (CB.out _ H1.out.st).mono ?_
   rintro e w2 ⟨rfl, hb2⟩
   have H2 := kH (H1.out.below hb2)
   clear hb2
   go_wp2_with fail
   refine (CL.out _ H2.out.st).mono ?_
   rintro e w3 ⟨ts, ns, p, c, l2, er2, rfl, r3, m3, rw3, ln3⟩
   have HE := kH (show RwPost K w l (printedP (rcP reOk (50 - dp)) l) dp false er (.returned (.slice p ns.length c)) w3 from ⟨ts, ns, p, c, l2, er2, rfl, by rw [HX.out]; exact r3, H2.out.trans m3, rw3.low H2.out.2.size, ln3⟩)
   clear r3 m3 rw3 ln3
   go_wp2_with fail
   go_ret
   exact HE.out
  | false =>
   rw [hb] at CB
   cases he : endB l with
   | true =>
    have HX : Hid (printedP (rcP reOk (50 - dp)) l = .ok ([], l)) := kH (by unfold printedP; rw [if_neg (fun e => by rw [hb] at e; exact absurd e.2 (by decide)), if_pos (by rw [he]; rfl)])
    rw [he] at CE
    clear he hc hb
    go_enter Tryz.func96, Tryz.ntmps96
    go_wp2_with fail
    refine (CC.out _ H0.out.st).mono ?_
    rintro e w1 ⟨rfl, m1⟩
    have H1 := kH (H0.out.trans m1)
    clear m1
    go_wp2_with fail
    refine (CB.out _ H1.out.st).mono ?_
    rintro e w2 ⟨rfl, hb2⟩
    have H2 := kH (H1.out.below hb2)
    clear hb2
    go_wp2_with fail
    refine (CE.out _ H2.out.st).mono ?_
    rintro e w3 ⟨rfl, m3⟩
    have H3 := kH (H2.out.trans m3)
    clear m3
    go_wp2_with fail
    go_ret
    exact ⟨[], [], none, 0, l, er, rfl, by rw [HX.out]; exact Res.ret HNE.out, H3.out, RwA.nil _ _, Nat.zero_le _⟩
   | false =>
    rw [he] at CE
    cases ht : targB l with
    | true =>
     have HX : Hid (printedP (rcP reOk (50 - dp)) l = .ok ([], l)) := kH (by unfold printedP; rw [if_neg (fun e => by rw [hb] at e; exact absurd e.2 (by decide)), if_pos (by rw [he, ht]; rfl)])
     rw [ht] at CT
     clear he ht hc hb
     go_enter Tryz.func96, Tryz.ntmps96
     go_wp2_with fail
     refine (CC.out _ H0.out.st).mono ?_
     rintro e w1 ⟨rfl, m1⟩
     have H1 := kH (H0.out.trans m1)
     clear m1
     go_wp2_with fail
     refine (CB.out _ H1.out.st).mono ?_
     rintro e w2 ⟨rfl, hb2⟩
     have H2 := kH (H1.out.below hb2)
     clear hb2
     go_wp2_with fail
     refine (CE.out _ H2.out.st).mono ?_
     rintro e w3 ⟨rfl, m3⟩
     have H3 := kH (H2.out.trans m3)
     clear m3
     go_wp2_with fail
     refine (CT.out _ H3.out.st).mono ?_
     rintro e w4 ⟨rfl, m4⟩
     have H4 := kH (H3.out.trans m4)
     clear m4
     go_wp2_with fail
     go_ret
     exact ⟨[], [], none, 0, l, er, rfl, by rw [HX.out]; exact Res.ret HNE.out, H4.out, RwA.nil _ _, Nat.zero_le _⟩
    | false =>
     have HX : Hid (printedP (rcP reOk (50 - dp)) l = row1 ((rcP reOk (50 - dp)).E true) l) := kH (by unfold printedP; rw [if_neg (fun e => by rw [hb] at e; exact absurd e.2 (by decide)), if_neg (by rw [he, ht]; decide)])
     rw [ht] at CT
     clear he ht hc hb
     go_enter Tryz.func96, Tryz.ntmps96
     go_wp2_with fail
     refine (CC.out _ H0.out.st).mono ?_
     rintro e w1 ⟨rfl, m1⟩
     have H1 := kH (H0.out.trans m1)
     clear m1
     go_wp2_with fail
     refine (CB.out _ H1.out.st).mono ?_
     rintro e w2 ⟨rfl, hb2⟩
     have H2 := kH (H1.out.below hb2)
     clear hb2
     go_wp2_with fail
     refine (CE.out _ H2.out.st).mono ?_
     rintro e w3 ⟨rfl, m3⟩
     have H3 := kH (H2.out.trans m3)
     clear m3
     go_wp2_with fail
     refine (CT.out _ H3.out.st).mono ?_
     rintro e w4 ⟨rfl, m4⟩
     have H4 := kH (H3.out.trans m4)
     clear m4
     obtain ⟨c0, c1, c2, c3, c4, c5, f1, f2, f3, f4, f5⟩ := H4.out.st.rd.cells
     have HP := kH (H4.out.print true)
     go_wp2_with fail
     refine (CR.out _ HP.out.st).mono ?_
     rintro e w8 ⟨ts, ns, p, c, l2, er2, rfl, r8, m8, rw8, ln8⟩
     have H8 := kH ((HP.out.trans m8).print false)
     have HR8 := kH r8
     have HSZ8 := kH HP.out.2.size
     have HRW := kH ((rw8.low HSZ8.out).onl ((Onl.refl K.b w8).setCell 3 (.bool false)) HK.out.1)
     have HLN := kH ln8
     obtain ⟨c0, c1, c2, c3, c4, c5, f1, f2, f3, f4, f5⟩ := m8.st.rd.cells
     clear r8 m8 rw8 ln8
     go_wp2_with fail
     go_ret
     exact ⟨ts, ns, p, c, l2, er2, rfl, by rw [HX.out]; exact HR8.out, H8.out, HRW.out, HLN.out⟩
 ·
  rw [decide_eq_false hc] at CC
  cases he : endB l with
  | true =>
   have HX : Hid (printedP (rcP reOk (50 - dp)) l = .ok ([], l)) := kH (by unfold printedP; rw [if_neg (fun e => hc e.1), if_pos (by rw [he]; rfl)])
   rw [he] at CE
   clear he hc
   go_enter Tryz.func96, Tryz.ntmps96
   go_wp2_with fail
   refine (CC.out _ H0.out.st).mono ?_
   rintro e w1 ⟨rfl, m1⟩
   have H1 := kH (H0.out.trans m1)
   clear m1
   go_wp2_with fail
   refine (CE.out _ H1.out.st).mono ?_
   rintro e w2 ⟨rfl, m2⟩
   have H2 := kH (H1.out.trans m2)
   clear m2
   go_wp2_with fail
   go_ret
   exact ⟨[], [], none, 0, l, er, rfl, by rw [HX.out]; exact Res.ret HNE.out, H2.out, RwA.nil _ _, Nat.zero_le _⟩
  | false =>
   rw [he] at CE
   cases ht : targB l with
   | true =>
    have HX : Hid (printedP (rcP reOk (50 - dp)) l = .ok ([], l)) := kH (by unfold printedP; rw [if_neg (fun e => hc e.1), if_pos (by rw [he, ht]; rfl)])
    rw [ht] at CT
    clear he ht hc
    go_enter Tryz.func96, Tryz.ntmps96
    go_wp2_with fail
    refine (CC.out _ H0.out.st).mono ?_
    rintro e w1 ⟨rfl, m1⟩
    have H1 := kH (H0.out.trans m1)
    clear m1
    go_wp2_with fail
    refine (CE.out _ H1.out.st).mono ?_
    rintro e w2 ⟨rfl, m2⟩
    have H2 := kH (H1.out.trans m2)
    clear m2
    go_wp2_with fail
    refine (CT.out _ H2.out.st).mono ?_
    rintro e w3 ⟨rfl, m3⟩
    have H3 := kH (H2.out.trans m3)
    clear m3
    go_wp2_with fail
    go_ret
    exact ⟨[], [], none, 0, l, er, rfl, by rw [HX.out]; exact Res.ret HNE.out, H3.out, RwA.nil _ _, Nat.zero_le _⟩
   | false =>
    have HX : Hid (printedP (rcP reOk (50 - dp)) l = row1 ((rcP reOk (50 - dp)).E true) l) := kH (by unfold printedP; rw [if_neg (fun e => hc e.1), if_neg (by rw [he, ht]; decide)])
    rw [ht] at CT
    clear he ht hc
    go_enter Tryz.func96, Tryz.ntmps96
    go_wp2_with fail
    refine (CC.out _ H0.out.st).mono ?_
    rintro e w1 ⟨rfl, m1⟩
    have H1 := kH (H0.out.trans m1)
    clear m1
    go_wp2_with fail
    refine (CE.out _ H1.out.st).mono ?_
    rintro e w2 ⟨rfl, m2⟩
    have H2 := kH (H1.out.trans m2)
    clear m2
    go_wp2_with fail
    refine (CT.out _ H2.out.st).mono ?_
    rintro e w3 ⟨rfl, m3⟩
    have H3 := kH (H2.out.trans m3)
    clear m3
    obtain ⟨c0, c1, c2, c3, c4, c5, f1, f2, f3, f4, f5⟩ := H3.out.st.rd.cells
    have HP := kH (H3.out.print true)
    go_wp2_with fail
    refine (CR.out _ HP.out.st).mono ?_
    rintro e w8 ⟨ts, ns, p, c, l2, er2, rfl, r8, m8, rw8, ln8⟩
    have H8 := kH ((HP.out.trans m8).print false)
    have HR8 := kH r8
    have HSZ8 := kH HP.out.2.size
    have HRW := kH ((rw8.low HSZ8.out).onl ((Onl.refl K.b w8).setCell 3 (.bool false)) HK.out.1)
    have HLN := kH ln8
    obtain ⟨c0, c1, c2, c3, c4, c5, f1, f2, f3, f4, f5⟩ := m8.st.rd.cells
    clear r8 m8 rw8 ln8
    go_wp2_with fail
    go_ret
    exact ⟨ts, ns, p, c, l2, er2, rfl, by rw [HX.out]; exact HR8.out, H8.out, HRW.out, HLN.out⟩
end Go.Proofs.YtmbfdkiejneheaaGreatDoor

namespace Go.Proofs.YtmbfdkiejneheaaGreatDoor
open Go.RowKit

theorem anRow_cells1 (ns : List An) : ∀ u ∈ anRow ns, u.oneCell' = true := by
 induction ns with
 | nil => intro u hu; cases hu
 | cons n ns ih =>
  intro u hu
  unfold anRow at hu
  rcases List.mem_append.1 hu with h | h
  ·
   simp [An.vals] at h
   rcases h with rfl | rfl | rfl | rfl <;> rfl
  ·
   exact ih u h
theorem RwA.front {w2 w9 : World} {n0 : Nat} {ts : List PT} {ns : List An} {v0 v9 : Value} {t : PT} {n : An} {lit : Obj} (hr : RwA w2 n0 ts ns v0) (ht : TreeP w2 (fun k => n0 ≤ k) t n)
  (hg : (w2.alloc lit).grownBy w9 (some w2.heap.size)) (hat : v9.ownBlock = some w2.heap.size ∨ v9.ownBlock = some (w2.heap.size + 1)) (own : w9.ownsRow n0 25 4 v9 (1 + ns.length) (n.vals ++ anRow ns)) : RwA w9 n0 (t :: ts) (n :: ns) v9 := by
 have hal : (w2.alloc lit).heap.size = w2.heap.size + 1 := by simp
 have hk : ∀ k, k < w2.heap.size → w9.heap[k]? = w2.heap[k]? := fun k hk => (grown_at hg (by omega) (fun e => by have := Option.some.inj e; omega)).trans (Below.heap_alloc w2 lit k hk)
 have hf : ∀ k, n0 ≤ k → k < w2.heap.size → FreeA n0 v9 k := fun k h1 h2 => ⟨h1, fun e => by rcases hat with h | h <;> (rw [h] at e; have := Option.some.inj e; omega)⟩
 refine ⟨?_, .cons (ht.kept' (fun k _ hl => hk k hl) (fun k h1 hl => hf k h1 hl)) (TreesP.kept (fun k _ hl => hk k hl) (fun k h1 hl => hf k h1.1 hl) ts ns hr.tr)⟩
 show w9.ownsRow n0 25 4 v9 (ns.length + 1) (n.vals ++ anRow ns)
 rw [Nat.add_comm]; exact own
set_option maxHeartbeats 8000000 in
set_option maxRecDepth 100000 in
theorem pprint_any {reOk : List UInt8 → Bool} {K : Ps} (HRe : ReOk reOk) (op : List UInt8) (dp : Nat) (l : List Tok) (er : ErO) (w : World) (hd : dp ≤ 50) (h : Pst w K l dp false er) :
  Calls Tryz.prog 87 #[.pointer (some ⟨K.b, 0, none⟩), .string ⟨op.toArray⟩] w (NdPost K w w.heap.size l (printP (rcP reOk (50 - dp)) reOk op l) dp false er) := by
 have CP := kH fun W hW => pprinted_any (K := K) HRe dp l er W hd hW
 have CT := kH fun l1 er1 W hW => ptarget_any (K := K) HRe dp l1 er1 W (.inl hd) hW
 have CX := kH fun l1 er1 => prefuse_any K l1 dp false er1
 have CM := kH fun o p n c W => pnode_any o p n c W
 have HLN : Hid (l.length ≤ 5000) := kH (by have := h.pos; omega)
 obtain ⟨i0, hi, hz0, hz1, hz2⟩ := info_parts Tryz.infoAst
 have HK : Hid (K.b < w.heap.size ∧ K.g < w.heap.size) := kH ⟨h.lt, h.glt⟩
 have HNZ : Hid (w.heap.size ≠ K.b) := kH (by have := HK.out; omega)
 have HN := kH (BlkA.new0 w)
 have H0 := kH ((Mv.refl h).alloc zN)
 have HSZ : Hid (w.heap.size + 1 = (w.alloc zN).heap.size) := kH (by simp)
 clear HRe hd h
 go_enter Tryz.func87, Tryz.ntmps87
 go_wp2_with fail
 generalize w.alloc zN = w0 at *
 have HLT := kH HN.out.lt
 refine (CP.out _ H0.out.st).mono ?_
 rintro e w1 ⟨ts, ns, p, c, l1, er1, rfl, r1, m1, rw1, ln1⟩
 have HN := kH (HN.out.onl m1.2 HNZ.out)
 have HR1 := kH r1
 have HRW := kH (rw1.low (n1 := w.heap.size + 1) (by have := HLT.out; omega))
 have HNS : Hid (ns.length ≤ 5500) := kH (by have := HLN.out; omega)
 have H1 := kH (H0.out.trans m1)
 clear m1 r1 rw1 ln1
 go_wp2_with fail
 have HLT := kH HN.out.lt
 refine (CT.out _ _ _ H1.out.st).mono ?_
 rintro e w2 ⟨t2, n2, l2, er2, rfl, r2, m2, tr2⟩
 have HN := kH (HN.out.onl m2.2 HNZ.out)
 have HRW := kH (HRW.out.onl m2.2 (by have := HK.out; omega))
 have HR2 := kH r2
 have HT2 := kH (tr2.low (B1 := w.heap.size + 1) (by have := HLT.out; omega))
 have H2 := kH (H1.out.trans m2)
 clear m2 r2 tr2
 unfold An.val
 have HTL := kH HRW.out.tr.len
 have HSZ := kH HN.out.lt
 have hown := HRW.out.own
 rcases hown.2 with ⟨hv, h0⟩ | ⟨g, cap, cur, hv, hgb, hrest⟩
 ·
  injection hv with e1 e2 e3
  subst e1; subst e3
  obtain rfl : ns = [] := List.eq_nil_of_length_eq_zero h0
  clear hown h0
  have hts : ts = [] := List.eq_nil_of_length_eq_zero (by have := HTL.out; simp at this; omega)
  have HTF : Hid (TreeP (w2.alloc (nB n2)) (fun k => w.heap.size + 1 ≤ k) (nd op (t2 :: ts)) ⟨bs op, ⟨#[]⟩, 0, some ⟨w2.heap.size, 0, none⟩, 1, 1⟩) := kH (by rw [hts]; exact (RwA.new1 HT2.out (by have := HSZ.out; omega)).nd op)
  clear hts
  have HN := kH (HN.out.alloc (nB n2))
  have H2 := kH (H2.out.alloc (nB n2))
  go_wp2_with fail
  refine (CM.out (bs op) _ _ _ _).mono ?_
  rintro e w3 ⟨rfl, hb3⟩
  have HTF := kH (HTF.out.below hb3)
  have HN := kH (HN.out.below hb3)
  have H3 := kH (H2.out.below hb3)
  clear hb3
  generalize (⟨bs op, ⟨#[]⟩, 0, some ⟨w2.heap.size, 0, none⟩, 1, 1⟩ : An) = nX at *
  unfold An.val
  have HBHV : Hid (w3.heap.size ≠ K.b) := kH (by have := H3.out.st.lt; omega)
  have HN := kH (HN.out.alloc (nB nX))
  have HTF := kH (HTF.out.below ((Below.refl _ _).alloc (Nat.le_refl _) (nB nX)))
  have HV := kH (BlkA.new w3 nX)
  have H3 := kH (H3.out.alloc (nB nX))
  by_cases hp : op = wPrintf
  ·
   have e1 : (op == [112, 114, 105, 110, 116, 102]) = true := by rw [hp]; rfl
   have HX : Hid (op = wPrintf ∧ ts = []) := kH ⟨hp, List.eq_nil_of_length_eq_zero (by have := HTL.out; simp at this; omega)⟩
   clear hp
   go_wp2_with fail
   refine ((CX.out l2 er2) _ H3.out.st).mono ?_
   rintro e w4 ⟨rfl, m4⟩
   have HN := kH (HN.out.onl m4.2 HNZ.out)
   have HTF := kH (HTF.out.onl m4.2 (by have := HK.out; omega))
   have HV := kH (HV.out.onl m4.2 HBHV.out)
   have H4 := kH (H3.out.trans m4)
   clear m4
   obtain ⟨v0, v1, v2, v3, vk0, vk1, vk2, vk3⟩ := HV.out.cells
   obtain ⟨z0, z1, z2, z3, zk0, zk1, zk2, zk3⟩ := HN.out.cells
   go_wp2_with fail
   exact bodyPost_ret (v := An.val nX) (by simp [results, Tryz.results87, go_sem, An.val, z0, z1, z2, z3]) rfl (NdPost.put (n := nX) (by unfold printP; exact HR1.out.bnd (HR2.out.bnd (by rw [if_pos HX.out]; exact Res.fail _ HR2.out.ne rfl))) H4.out (HTF.out) HK.out)
  ·
   have HX : Hid (¬ (op = wPrintf ∧ ts = [])) := kH (fun e => hp e.1)
   have e1 : (op == [112, 114, 105, 110, 116, 102]) = false := by rw [beq_eq_false_iff_ne]; exact hp
   clear hp
   obtain ⟨v0, v1, v2, v3, vk0, vk1, vk2, vk3⟩ := HV.out.cells
   obtain ⟨z0, z1, z2, z3, zk0, zk1, zk2, zk3⟩ := HN.out.cells
   go_wp2_with fail
   exact bodyPost_ret (v := An.val nX) (by simp [results, Tryz.results87, go_sem, An.val, z0, z1, z2, z3]) rfl (NdPost.put (n := nX) (by unfold printP; exact HR1.out.bnd (HR2.out.bnd (by rw [if_neg HX.out]; exact Res.ret HR2.out.ne))) H3.out (HTF.out) HK.out)
 ·
  injection hv with e1 e2 e3
  subst e1
  have HOW := kH (World.ownsRow_lit (base := w.heap.size + 1) (e := 25) (size := 4) w2 #[.string n2.op, .string n2.tx, .int .i64 n2.pl, .slice n2.kp n2.kn n2.kc] 1 (by have := HSZ.out; omega) (by decide) rfl)
  clear hown hgb hrest e2 e3
  go_wp2_with (at_builtin; refine wpList_append_own_at _ rfl (.tmp 12) (.tmp 13) 23 rfl (w.heap.size + 1) 25 i0 (.agg #[.string ⟨#[]⟩, .string ⟨#[]⟩, .int .i64 0, .slice none 0 0]) 4 64 Tryz.underlying23 hi hz0 hz1 hz2 rfl (by decide) (.slice (some ⟨w2.heap.size, 0, none⟩) 1 1) 1 _ rfl HOW.out ⟨g, 0, none⟩ ns.length c (anRow ns) rfl ?c0 ?c1 ?c2 ?c3 ?c4 ?c5 ?_)
  case c0 => exact anRow_len ns
  case c1 =>
   intro j u hu
   have hj : j < (anRow ns).length := by
    rcases Nat.lt_or_ge j (anRow ns).length with h | h
    ·
     exact h
    ·
     rw [List.getElem?_eq_none h] at hu; cases hu
   have h1 := (HRW.out.own.alloc (nB n2)).cellAt j (by rw [anRow_len] at hj; omega)
   rw [hu] at h1
   have h2 : Addr.add ⟨g, 0, none⟩ j = ⟨g, j, none⟩ := by unfold Addr.add; simp; exact fun e => e.symm
   rw [h2]; exact h1
  case c2 => exact anRow_cells1 ns
  case c3 => have := HNS.out; unfold maxLen; omega
  case c4 => have := HNS.out; omega
  case c5 => have := HSZ.out; simp; omega
  intro v3 w3 hown3 hgrow3 _ hat3
  obtain ⟨p3, c3, rfl, _⟩ := rg_own_form hown3
  have hA := RwA.front HRW.out HT2.out hgrow3 (by rcases hat3 with h | h; exact .inl h; exact .inr h) hown3
  have hM := Mv.app H2.out HK.out (v := .slice (some ⟨w2.heap.size, 0, none⟩) 1 1) (fun g hg => by have h : w2.heap.size = g := Option.some.inj hg; have := HSZ.out; omega) hgrow3
  have hN : BlkA w3 w.heap.size An.zero := ((grown_at hgrow3 (by have := HSZ.out; simp; omega) (fun e => by have h : w2.heap.size = w.heap.size := Option.some.inj e; have := HSZ.out; omega)).trans (Below.heap_alloc w2 _ _ HSZ.out)).trans HN.out
  have hF : TreeP w3 (fun k => w.heap.size + 1 ≤ k) (nd op (t2 :: ts)) ⟨bs op, ⟨#[]⟩, 0, p3, 1 + ns.length, c3⟩ := by
   have h1 : 1 + ns.length = (n2 :: ns).length := by simp; omega
   rw [h1] at hA ⊢
   exact hA.nd op
  have H3 := kH hM
  have HN := kH hN
  have HTF := kH hF
  clear hA hM hN hF hown3 hgrow3 hat3 HOW
  go_wp2_with fail
  refine (CM.out (bs op) _ _ _ _).mono ?_
  rintro e w4 ⟨rfl, hb4⟩
  have HTF := kH (HTF.out.below hb4)
  have HN := kH (HN.out.below hb4)
  have H4 := kH (H3.out.below hb4)
  clear hb4
  generalize (⟨bs op, ⟨#[]⟩, 0, p3, 1 + ns.length, c3⟩ : An) = nX at *
  unfold An.val
  have HBHV : Hid (w4.heap.size ≠ K.b) := kH (by have := H4.out.st.lt; omega)
  have HN := kH (HN.out.alloc (nB nX))
  have HTF := kH (HTF.out.below ((Below.refl _ _).alloc (Nat.le_refl _) (nB nX)))
  have HV := kH (BlkA.new w4 nX)
  have H4 := kH (H4.out.alloc (nB nX))
  by_cases hp : op = wPrintf
  ·
   have e1 : (op == [112, 114, 105, 110, 116, 102]) = true := by rw [hp]; rfl
   by_cases hz : ns.length = 0
   ·
    have HX : Hid (op = wPrintf ∧ ts = []) := kH ⟨hp, List.eq_nil_of_length_eq_zero (by have := HTL.out; omega)⟩
    have e2 : ((ns.length : Int) == 0) = true := by rw [hz]; rfl
    clear hp hz
    go_wp2_with fail
    refine ((CX.out l2 er2) _ H4.out.st).mono ?_
    rintro e w5 ⟨rfl, m5⟩
    have HN := kH (HN.out.onl m5.2 HNZ.out)
    have HTF := kH (HTF.out.onl m5.2 (by have := HK.out; omega))
    have HV := kH (HV.out.onl m5.2 HBHV.out)
    have H5 := kH (H4.out.trans m5)
    clear m5
    obtain ⟨v0, v1, v2, v3, vk0, vk1, vk2, vk3⟩ := HV.out.cells
    obtain ⟨z0, z1, z2, z3, zk0, zk1, zk2, zk3⟩ := HN.out.cells
    go_wp2_with fail
    exact bodyPost_ret (v := An.val nX) (by simp [results, Tryz.results87, go_sem, An.val, z0, z1, z2, z3]) rfl (NdPost.put (n := nX) (by unfold printP; exact HR1.out.bnd (HR2.out.bnd (by rw [if_pos HX.out]; exact Res.fail _ HR2.out.ne rfl))) H5.out (HTF.out) HK.out)
   ·
    have HX : Hid (¬ (op = wPrintf ∧ ts = [])) := kH (fun e => hz (by have := HTL.out; rw [e.2] at this; simpa using this))
    have e2 : ((ns.length : Int) == 0) = false := by rw [beq_eq_false_iff_ne]; omega
    clear hp hz
    obtain ⟨v0, v1, v2, v3, vk0, vk1, vk2, vk3⟩ := HV.out.cells
    obtain ⟨z0, z1, z2, z3, zk0, zk1, zk2, zk3⟩ := HN.out.cells
    go_wp2_with fail
    exact bodyPost_ret (v := An.val nX) (by simp [results, Tryz.results87, go_sem, An.val, z0, z1, z2, z3]) rfl (NdPost.put (n := nX) (by unfold printP; exact HR1.out.bnd (HR2.out.bnd (by rw [if_neg HX.out]; exact Res.ret HR2.out.ne))) H4.out (HTF.out) HK.out)
  ·
   have HX : Hid (¬ (op = wPrintf ∧ ts = [])) := kH (fun e => hp e.1)
   have e1 : (op == [112, 114, 105, 110, 116, 102]) = false := by rw [beq_eq_false_iff_ne]; exact hp
   clear hp
   obtain ⟨v0, v1, v2, v3, vk0, vk1, vk2, vk3⟩ := HV.out.cells
   obtain ⟨z0, z1, z2, z3, zk0, zk1, zk2, zk3⟩ := HN.out.cells
   go_wp2_with fail
   exact bodyPost_ret (v := An.val nX) (by simp [results, Tryz.results87, go_sem, An.val, z0, z1, z2, z3]) rfl (NdPost.put (n := nX) (by unfold printP; exact HR1.out.bnd (HR2.out.bnd (by rw [if_neg HX.out]; exact Res.ret HR2.out.ne))) H4.out (HTF.out) HK.out)
end Go.Proofs.YtmbfdkiejneheaaGreatDoor

namespace Go.Proofs.YtmbfdkiejneheaaGreatDoor
open Go.RowKit

theorem single_bnd {β : Type} {f : List Tok → TR PT} {g : List PT → List Tok → TR β} {l l2 : List Tok} {er er2 : ErO} {a : β} (h : Res (bnd (singleP f l) g) l er a l2 er2) : Res (bnd (f l) fun t l2 => g [t] l2) l er a l2 er2 := by
 unfold singleP at h
 rw [bnd_assoc] at h
 exact h
set_option maxHeartbeats 8000000 in
set_option maxRecDepth 100000 in
theorem psimple_any {reOk : List UInt8 → Bool} {K : Ps} (HRe : ReOk reOk) (dp : Nat) (l : List Tok) (er : ErO) (w : World) (hd : dp ≤ 50) (h : Pst w K l dp false er) :
  Calls Tryz.prog 70 #[.pointer (some ⟨K.b, 0, none⟩)] w (NdPost K w w.heap.size l (simpleP (rcP reOk (50 - dp)) reOk l) dp false er) := by
 have CK := kH (ptok_any K l dp false er)
 have CF := kH (pfix_any K l dp false er)
 have CN := kH (pnext_any K l dp false er)
 have CE := kH (pends_any K (nx l) dp false er)
 have CS := kH fun W hW => psingle_any (K := K) (m := (nx l).length + 1) (pexpr_all HRe ((nx l).length + 1)).1 dp false (nx l) er W hd (Nat.lt_succ_self _) hW
 have CEl := kH fun W hW => pelem_any (K := K) (m := (nx l).length) (pexpr_all HRe (nx l).length).1 oName dp false (nx l) er W (.inl hd) (Nat.le_refl _) hW
 have CPr := kH fun op W hW => pprint_any (K := K) HRe op dp (nx l) er W hd hW
 have CX := kH fun W hW => pexpr_any' (K := K) HRe dp false l er W hd hW
 have CM := kH fun o p n c W => pnode_any o p n c W
 have HTL := kH h.tll.nx
 unfold oName at CEl
 obtain ⟨S, hS⟩ : ∃ S, fx l = S := ⟨_, rfl⟩
 have HK : Hid (K.b < w.heap.size ∧ K.g < w.heap.size) := kH ⟨h.lt, h.glt⟩
 have HNZ : Hid (w.heap.size ≠ K.b) := kH (by have := HK.out; omega)
 have HN := kH (BlkA.new0 w)
 have H0 := kH ((Mv.refl h).alloc zN)
 have HSZ : Hid (w.heap.size + 1 = (w.alloc zN).heap.size) := kH (by simp)
 clear HRe hd h
 go_enter Tryz.func70, Tryz.ntmps70
 go_wp2_with fail
 generalize w.alloc zN = w0 at *
 refine (CK.out _ H0.out.st).mono ?_
 rintro e w1 ⟨rfl, m1⟩
 have HN := kH (HN.out.onl m1.2 HNZ.out)
 have H1 := kH (H0.out.trans m1)
 clear m1
 have HBHT1 : Hid (w1.heap.size ≠ K.b) := kH (by have := H1.out.st.lt; omega)
 have HN := kH (HN.out.alloc (.cells #[.int .i64 ((tk l)).k, .string ⟨((tk l)).t.toArray⟩, .int .i64 ((tk l)).a] 60))
 have HT1 := kH (BlkT.new w1 (tk l))
 have H1 := kH (H1.out.alloc (.cells #[.int .i64 ((tk l)).k, .string ⟨((tk l)).t.toArray⟩, .int .i64 ((tk l)).a] 60))
 unfold tokV
 go_wp2_with fail
 rw [hS] at CF
 by_cases h0 : S = [98, 114, 101, 97, 107]
 ·
  subst h0
  have HX : Hid (simpleP (rcP reOk (50 - dp)) reOk l = .ok (.mk [98, 114, 101, 97, 107] [] (tk l).a [], nx l)) := kH (by unfold simpleP; rw [if_pos (show fx l = wBreak ∨ fx l = wContinue ∨ fx l = wNext from by rw [hS]; decide)]; rw [hS])
  clear hS
  refine (CF.out _ H1.out.st).mono ?_
  rintro e w2 ⟨rfl, m2⟩
  have HN := kH (HN.out.onl m2.2 HNZ.out)
  have HT1 := kH (HT1.out.onl m2.2 HBHT1.out)
  have H2 := kH (H1.out.trans m2)
  clear m2
  go_wp2_with fail
  refine (CN.out _ H2.out.st).mono ?_
  rintro e w3 ⟨rfl, m3⟩
  have HN := kH (HN.out.onl m3.2 HNZ.out)
  have HT1 := kH (HT1.out.onl m3.2 HBHT1.out)
  have H3 := kH (H2.out.trans m3)
  clear m3
  obtain ⟨d0, d1, d2, dk0, dk1, dk2⟩ := HT1.out.cells
  unfold tokV
  obtain ⟨z0, z1, z2, z3, zk0, zk1, zk2, zk3⟩ := HN.out.cells
  go_wp2_with fail
  exact bodyPost_ret (v := An.val ⟨bs [98, 114, 101, 97, 107], ⟨#[]⟩, (tk l).a, none, 0, 0⟩) (by simp [results, Tryz.results70, go_sem, An.val, z0, z1, z2, z3] <;> rfl) rfl (NdPost.put (n := ⟨bs [98, 114, 101, 97, 107], ⟨#[]⟩, (tk l).a, none, 0, 0⟩) (by rw [HX.out]; exact Res.ret' HTL.out.1 HTL.out.2.1) H3.out (TreeP.leaf _ _ [98, 114, 101, 97, 107] [] (tk l).a) HK.out)
 ·
  by_cases h1 : S = [99, 111, 110, 116, 105, 110, 117, 101]
  ·
   subst h1
   clear h0
   have HX : Hid (simpleP (rcP reOk (50 - dp)) reOk l = .ok (.mk [99, 111, 110, 116, 105, 110, 117, 101] [] (tk l).a [], nx l)) := kH (by unfold simpleP; rw [if_pos (show fx l = wBreak ∨ fx l = wContinue ∨ fx l = wNext from by rw [hS]; decide)]; rw [hS])
   clear hS
   refine (CF.out _ H1.out.st).mono ?_
   rintro e w2 ⟨rfl, m2⟩
   have HN := kH (HN.out.onl m2.2 HNZ.out)
   have HT1 := kH (HT1.out.onl m2.2 HBHT1.out)
   have H2 := kH (H1.out.trans m2)
   clear m2
   go_wp2_with fail
   refine (CN.out _ H2.out.st).mono ?_
   rintro e w3 ⟨rfl, m3⟩
   have HN := kH (HN.out.onl m3.2 HNZ.out)
   have HT1 := kH (HT1.out.onl m3.2 HBHT1.out)
   have H3 := kH (H2.out.trans m3)
   clear m3
   obtain ⟨d0, d1, d2, dk0, dk1, dk2⟩ := HT1.out.cells
   unfold tokV
   obtain ⟨z0, z1, z2, z3, zk0, zk1, zk2, zk3⟩ := HN.out.cells
   go_wp2_with fail
   exact bodyPost_ret (v := An.val ⟨bs [99, 111, 110, 116, 105, 110, 117, 101], ⟨#[]⟩, (tk l).a, none, 0, 0⟩) (by simp [results, Tryz.results70, go_sem, An.val, z0, z1, z2, z3] <;> rfl) rfl (NdPost.put (n := ⟨bs [99, 111, 110, 116, 105, 110, 117, 101], ⟨#[]⟩, (tk l).a, none, 0, 0⟩) (by rw [HX.out]; exact Res.ret' HTL.out.1 HTL.out.2.1) H3.out (TreeP.leaf _ _ [99, 111, 110, 116, 105, 110, 117, 101] [] (tk l).a) HK.out)
  ·
   by_cases h2 : S = [110, 101, 120, 116]
   ·
    subst h2
    clear h0 h1
    have HX : Hid (simpleP (rcP reOk (50 - dp)) reOk l = .ok (.mk [110, 101, 120, 116] [] (tk l).a [], nx l)) := kH (by unfold simpleP; rw [if_pos (show fx l = wBreak ∨ fx l = wContinue ∨ fx l = wNext from by rw [hS]; decide)]; rw [hS])
    clear hS
    refine (CF.out _ H1.out.st).mono ?_
    rintro e w2 ⟨rfl, m2⟩
    have HN := kH (HN.out.onl m2.2 HNZ.out)
    have HT1 := kH (HT1.out.onl m2.2 HBHT1.out)
    have H2 := kH (H1.out.trans m2)
    clear m2
    go_wp2_with fail
    refine (CN.out _ H2.out.st).mono ?_
    rintro e w3 ⟨rfl, m3⟩
    have HN := kH (HN.out.onl m3.2 HNZ.out)
    have HT1 := kH (HT1.out.onl m3.2 HBHT1.out)
    have H3 := kH (H2.out.trans m3)
    clear m3
    obtain ⟨d0, d1, d2, dk0, dk1, dk2⟩ := HT1.out.cells
    unfold tokV
    obtain ⟨z0, z1, z2, z3, zk0, zk1, zk2, zk3⟩ := HN.out.cells
    go_wp2_with fail
    exact bodyPost_ret (v := An.val ⟨bs [110, 101, 120, 116], ⟨#[]⟩, (tk l).a, none, 0, 0⟩) (by simp [results, Tryz.results70, go_sem, An.val, z0, z1, z2, z3] <;> rfl) rfl (NdPost.put (n := ⟨bs [110, 101, 120, 116], ⟨#[]⟩, (tk l).a, none, 0, 0⟩) (by rw [HX.out]; exact Res.ret' HTL.out.1 HTL.out.2.1) H3.out (TreeP.leaf _ _ [110, 101, 120, 116] [] (tk l).a) HK.out)
   ·
    by_cases h3 : S = [101, 120, 105, 116]
    ·
     subst h3
     clear h0 h1 h2
     have HXS := kH (show simpleP (rcP reOk (50 - dp)) reOk l = if endB (nx l) then .ok (.mk [101, 120, 105, 116] [] (tk l).a [], nx l) else bnd ((rcP reOk (50 - dp)).E false (nx l)) fun t l2 => .ok (.mk [101, 120, 105, 116] [] (tk l).a [t], l2) from by unfold simpleP; rw [if_neg (show ¬ (fx l = wBreak ∨ fx l = wContinue ∨ fx l = wNext) from by rw [hS]; decide)]; rw [if_pos (show fx l = wExit ∨ fx l = wReturn from by rw [hS]; decide)]; rw [hS])
     clear hS
     refine (CF.out _ H1.out.st).mono ?_
     rintro e w2 ⟨rfl, m2⟩
     have HN := kH (HN.out.onl m2.2 HNZ.out)
     have HT1 := kH (HT1.out.onl m2.2 HBHT1.out)
     have H2 := kH (H1.out.trans m2)
     clear m2
     go_wp2_with fail
     refine (CN.out _ H2.out.st).mono ?_
     rintro e w3 ⟨rfl, m3⟩
     have HN := kH (HN.out.onl m3.2 HNZ.out)
     have HT1 := kH (HT1.out.onl m3.2 HBHT1.out)
     have H3 := kH (H2.out.trans m3)
     clear m3
     obtain ⟨d0, d1, d2, dk0, dk1, dk2⟩ := HT1.out.cells
     unfold tokV
     have hgv0 := HN.out.lt
     have HBHV : Hid (w3.heap.size ≠ K.b) := kH (by have := H3.out.st.lt; omega)
     have HN := kH (HN.out.alloc (.cells #[.string ⟨#[101, 120, 105, 116]⟩, .string ⟨#[]⟩, .int .i64 ((tk l).a : Int), .slice none 0 0] 25))
     have HT1 := kH (HT1.out.alloc (.cells #[.string ⟨#[101, 120, 105, 116]⟩, .string ⟨#[]⟩, .int .i64 ((tk l).a : Int), .slice none 0 0] 25))
     have HV := kH (show BlkA (w3.alloc (.cells #[.string ⟨#[101, 120, 105, 116]⟩, .string ⟨#[]⟩, .int .i64 ((tk l).a : Int), .slice none 0 0] 25)) w3.heap.size (⟨bs [101, 120, 105, 116], ⟨#[]⟩, ((tk l).a : Int), none, 0, 0⟩ : An) from BlkA.new w3 (⟨bs [101, 120, 105, 116], ⟨#[]⟩, ((tk l).a : Int), none, 0, 0⟩ : An))
     have H3 := kH (H3.out.alloc (.cells #[.string ⟨#[101, 120, 105, 116]⟩, .string ⟨#[]⟩, .int .i64 ((tk l).a : Int), .slice none 0 0] 25))
     have HGV0 : Hid (w.heap.size < w3.heap.size) := kH hgv0
     go_wp2_with fail
     cases he : endB (nx l) with
     | true =>
      have HX : Hid (simpleP (rcP reOk (50 - dp)) reOk l = .ok (.mk [101, 120, 105, 116] [] (tk l).a [], nx l)) := kH (by rw [HXS.out, if_pos he])
      rw [he] at CE
      clear he
      refine (CE.out _ H3.out.st).mono ?_
      rintro e w4 ⟨rfl, m4⟩
      have HN := kH (HN.out.onl m4.2 HNZ.out)
      have HT1 := kH (HT1.out.onl m4.2 HBHT1.out)
      have HV := kH (HV.out.onl m4.2 HBHV.out)
      have H4 := kH (H3.out.trans m4)
      clear m4
      obtain ⟨v0, v1, v2, v3, vk0, vk1, vk2, vk3⟩ := HV.out.cells
      unfold bs at v0
      obtain ⟨z0, z1, z2, z3, zk0, zk1, zk2, zk3⟩ := HN.out.cells
      go_wp2_with fail
      exact bodyPost_ret (v := An.val ⟨bs [101, 120, 105, 116], ⟨#[]⟩, (tk l).a, none, 0, 0⟩) (by simp [results, Tryz.results70, go_sem, An.val, z0, z1, z2, z3] <;> rfl) rfl (NdPost.put (n := ⟨bs [101, 120, 105, 116], ⟨#[]⟩, (tk l).a, none, 0, 0⟩) (by rw [HX.out]; exact Res.ret' HTL.out.1 HTL.out.2.1) H4.out (TreeP.leaf _ _ [101, 120, 105, 116] [] (tk l).a) HK.out)
     | false =>
      have HX : Hid (simpleP (rcP reOk (50 - dp)) reOk l = bnd ((rcP reOk (50 - dp)).E false (nx l)) fun t l2 => .ok (.mk [101, 120, 105, 116] [] (tk l).a [t], l2)) := kH (by rw [HXS.out, if_neg (by rw [he]; decide)])
      rw [he] at CE
      clear he
      refine (CE.out _ H3.out.st).mono ?_
      rintro e w4 ⟨rfl, m4⟩
      have HN := kH (HN.out.onl m4.2 HNZ.out)
      have HT1 := kH (HT1.out.onl m4.2 HBHT1.out)
      have HV := kH (HV.out.onl m4.2 HBHV.out)
      have H4 := kH (H3.out.trans m4)
      clear m4
      go_wp2_with fail
      have HLV := kH HV.out.lt
      have HLT := kH HN.out.lt
      refine (CS.out _ H4.out.st).mono ?_
      rintro e w5 ⟨ts, ns, p, c, l5, er5, rfl, r5, m5, rw5, ln5⟩
      have HN := kH (HN.out.onl m5.2 HNZ.out)
      have HT1 := kH (HT1.out.onl m5.2 HBHT1.out)
      have HV := kH (HV.out.onl m5.2 HBHV.out)
      have HR5 := kH r5
      have HRW := kH rw5
      have H5 := kH (H4.out.trans m5)
      clear m5 r5 rw5 ln5
      have hvo := HV.out
      have hn0 := HN.out
      have HRW2 := kH ((HRW.out.onl ((Onl.refl w3.heap.size w5).setCell 3 (.slice p ns.length c)) HLV.out).low (n1 := w.heap.size + 1) (by have := HLT.out; omega))
      have HGV : Hid (w.heap.size < w3.heap.size) := kH HGV0.out
      have H6 : Hid (Mv K w l5 dp false er5 (w5.setCell ⟨w3.heap.size, 3, none⟩ (.slice p ns.length c))) := kH ⟨H5.out.1.setNew (by have := HGV.out; have := HK.out; simp only; omega) (by have := HGV.out; have := HK.out; simp only; omega) _, H5.out.2.setNew (by have := HGV.out; simp only; omega) _⟩
      have HN := kH (HN.out.setNew (p := ⟨w3.heap.size, 3, none⟩) (by have := HGV.out; simp only; omega) (.slice p ns.length c))
      have HV := kH (show BlkA (w5.setCell ⟨w3.heap.size, 3, none⟩ (.slice p ns.length c)) w3.heap.size ⟨bs [101, 120, 105, 116], ⟨#[]⟩, ((tk l).a : Int), p, ns.length, c⟩ from rg_setCell HV.out _)
      obtain ⟨u0, u1, u2, u3, uk0, uk1, uk2, uk3⟩ := hvo.cells
      clear hvo
      have hgv := HGV.out
      obtain ⟨z0, z1, z2, z3, zk0, zk1, zk2, zk3⟩ := hn0.cells
      clear hn0
      have hne : w.heap.size ≠ w3.heap.size := by omega
      have hne2 : w3.heap.size ≠ w.heap.size := by omega
      unfold bs at u0
      go_wp2_with fail
      exact bodyPost_ret (v := An.val ⟨bs [101, 120, 105, 116], ⟨#[]⟩, (tk l).a, p, ns.length, c⟩) (by simp [results, Tryz.results70, go_sem, An.val, z0, z1, z2, z3] <;> rfl) rfl (NdPost.put (n := ⟨bs [101, 120, 105, 116], ⟨#[]⟩, (tk l).a, p, ns.length, c⟩) (by rw [HX.out]; exact (show Res (bnd (singleP ((rcP reOk (50 - dp)).E false) (nx l)) fun ts l2 => .ok (PT.mk [101, 120, 105, 116] [] (tk l).a ts, l2)) (nx l) er (PT.mk [101, 120, 105, 116] [] (tk l).a ts) l5 er5 from HR5.out.bnd (Res.ret HR5.out.ne)) |> fun h => (single_bnd h).pre HTL.out.1) H6.out (HRW2.out.node [101, 120, 105, 116] [] (tk l).a) HK.out)
    ·
     by_cases h4 : S = [114, 101, 116, 117, 114, 110]
     ·
      subst h4
      clear h0 h1 h2 h3
      have HXS := kH (show simpleP (rcP reOk (50 - dp)) reOk l = if endB (nx l) then .ok (.mk [114, 101, 116, 117, 114, 110] [] (tk l).a [], nx l) else bnd ((rcP reOk (50 - dp)).E false (nx l)) fun t l2 => .ok (.mk [114, 101, 116, 117, 114, 110] [] (tk l).a [t], l2) from by unfold simpleP; rw [if_neg (show ¬ (fx l = wBreak ∨ fx l = wContinue ∨ fx l = wNext) from by rw [hS]; decide)]; rw [if_pos (show fx l = wExit ∨ fx l = wReturn from by rw [hS]; decide)]; rw [hS])
      clear hS
      refine (CF.out _ H1.out.st).mono ?_
      rintro e w2 ⟨rfl, m2⟩
      have HN := kH (HN.out.onl m2.2 HNZ.out)
      have HT1 := kH (HT1.out.onl m2.2 HBHT1.out)
      have H2 := kH (H1.out.trans m2)
      clear m2
      go_wp2_with fail
      refine (CN.out _ H2.out.st).mono ?_
      rintro e w3 ⟨rfl, m3⟩
      have HN := kH (HN.out.onl m3.2 HNZ.out)
      have HT1 := kH (HT1.out.onl m3.2 HBHT1.out)
      have H3 := kH (H2.out.trans m3)
      clear m3
      obtain ⟨d0, d1, d2, dk0, dk1, dk2⟩ := HT1.out.cells
      unfold tokV
      have hgv0 := HN.out.lt
      have HBHV : Hid (w3.heap.size ≠ K.b) := kH (by have := H3.out.st.lt; omega)
      have HN := kH (HN.out.alloc (.cells #[.string ⟨#[114, 101, 116, 117, 114, 110]⟩, .string ⟨#[]⟩, .int .i64 ((tk l).a : Int), .slice none 0 0] 25))
      have HT1 := kH (HT1.out.alloc (.cells #[.string ⟨#[114, 101, 116, 117, 114, 110]⟩, .string ⟨#[]⟩, .int .i64 ((tk l).a : Int), .slice none 0 0] 25))
      have HV := kH (show BlkA (w3.alloc (.cells #[.string ⟨#[114, 101, 116, 117, 114, 110]⟩, .string ⟨#[]⟩, .int .i64 ((tk l).a : Int), .slice none 0 0] 25)) w3.heap.size (⟨bs [114, 101, 116, 117, 114, 110], ⟨#[]⟩, ((tk l).a : Int), none, 0, 0⟩ : An) from BlkA.new w3 (⟨bs [114, 101, 116, 117, 114, 110], ⟨#[]⟩, ((tk l).a : Int), none, 0, 0⟩ : An))
      have H3 := kH (H3.out.alloc (.cells #[.string ⟨#[114, 101, 116, 117, 114, 110]⟩, .string ⟨#[]⟩, .int .i64 ((tk l).a : Int), .slice none 0 0] 25))
      have HGV0 : Hid (w.heap.size < w3.heap.size) := kH hgv0
      go_wp2_with fail
      cases he : endB (nx l) with
      | true =>
       have HX : Hid (simpleP (rcP reOk (50 - dp)) reOk l = .ok (.mk [114, 101, 116, 117, 114, 110] [] (tk l).a [], nx l)) := kH (by rw [HXS.out, if_pos he])
       rw [he] at CE
       clear he
       refine (CE.out _ H3.out.st).mono ?_
       rintro e w4 ⟨rfl, m4⟩
       have HN := kH (HN.out.onl m4.2 HNZ.out)
       have HT1 := kH (HT1.out.onl m4.2 HBHT1.out)
       have HV := kH (HV.out.onl m4.2 HBHV.out)
       have H4 := kH (H3.out.trans m4)
       clear m4
       obtain ⟨v0, v1, v2, v3, vk0, vk1, vk2, vk3⟩ := HV.out.cells
       unfold bs at v0
       obtain ⟨z0, z1, z2, z3, zk0, zk1, zk2, zk3⟩ := HN.out.cells
       go_wp2_with fail
       exact bodyPost_ret (v := An.val ⟨bs [114, 101, 116, 117, 114, 110], ⟨#[]⟩, (tk l).a, none, 0, 0⟩) (by simp [results, Tryz.results70, go_sem, An.val, z0, z1, z2, z3] <;> rfl) rfl (NdPost.put (n := ⟨bs [114, 101, 116, 117, 114, 110], ⟨#[]⟩, (tk l).a, none, 0, 0⟩) (by rw [HX.out]; exact Res.ret' HTL.out.1 HTL.out.2.1) H4.out (TreeP.leaf _ _ [114, 101, 116, 117, 114, 110] [] (tk l).a) HK.out)
      | false =>
       have HX : Hid (simpleP (rcP reOk (50 - dp)) reOk l = bnd ((rcP reOk (50 - dp)).E false (nx l)) fun t l2 => .ok (.mk [114, 101, 116, 117, 114, 110] [] (tk l).a [t], l2)) := kH (by rw [HXS.out, if_neg (by rw [he]; decide)])
       rw [he] at CE
       clear he
       refine (CE.out _ H3.out.st).mono ?_
       rintro e w4 ⟨rfl, m4⟩
       have HN := kH (HN.out.onl m4.2 HNZ.out)
       have HT1 := kH (HT1.out.onl m4.2 HBHT1.out)
       have HV := kH (HV.out.onl m4.2 HBHV.out)
       have H4 := kH (H3.out.trans m4)
       clear m4
       go_wp2_with fail
       have HLV := kH HV.out.lt
       have HLT := kH HN.out.lt
       refine (CS.out _ H4.out.st).mono ?_
       rintro e w5 ⟨ts, ns, p, c, l5, er5, rfl, r5, m5, rw5, ln5⟩
       have HN := kH (HN.out.onl m5.2 HNZ.out)
       have HT1 := kH (HT1.out.onl m5.2 HBHT1.out)
       have HV := kH (HV.out.onl m5.2 HBHV.out)
       have HR5 := kH r5
       have HRW := kH rw5
       have H5 := kH (H4.out.trans m5)
       clear m5 r5 rw5 ln5
       have hvo := HV.out
       have hn0 := HN.out
       have HRW2 := kH ((HRW.out.onl ((Onl.refl w3.heap.size w5).setCell 3 (.slice p ns.length c)) HLV.out).low (n1 := w.heap.size + 1) (by have := HLT.out; omega))
       have HGV : Hid (w.heap.size < w3.heap.size) := kH HGV0.out
       have H6 : Hid (Mv K w l5 dp false er5 (w5.setCell ⟨w3.heap.size, 3, none⟩ (.slice p ns.length c))) := kH ⟨H5.out.1.setNew (by have := HGV.out; have := HK.out; simp only; omega) (by have := HGV.out; have := HK.out; simp only; omega) _, H5.out.2.setNew (by have := HGV.out; simp only; omega) _⟩
       have HN := kH (HN.out.setNew (p := ⟨w3.heap.size, 3, none⟩) (by have := HGV.out; simp only; omega) (.slice p ns.length c))
       have HV := kH (show BlkA (w5.setCell ⟨w3.heap.size, 3, none⟩ (.slice p ns.length c)) w3.heap.size ⟨bs [114, 101, 116, 117, 114, 110], ⟨#[]⟩, ((tk l).a : Int), p, ns.length, c⟩ from rg_setCell HV.out _)
       obtain ⟨u0, u1, u2, u3, uk0, uk1, uk2, uk3⟩ := hvo.cells
       clear hvo
       have hgv := HGV.out
       obtain ⟨z0, z1, z2, z3, zk0, zk1, zk2, zk3⟩ := hn0.cells
       clear hn0
       have hne : w.heap.size ≠ w3.heap.size := by omega
       have hne2 : w3.heap.size ≠ w.heap.size := by omega
       unfold bs at u0
       go_wp2_with fail
       exact bodyPost_ret (v := An.val ⟨bs [114, 101, 116, 117, 114, 110], ⟨#[]⟩, (tk l).a, p, ns.length, c⟩) (by simp [results, Tryz.results70, go_sem, An.val, z0, z1, z2, z3] <;> rfl) rfl (NdPost.put (n := ⟨bs [114, 101, 116, 117, 114, 110], ⟨#[]⟩, (tk l).a, p, ns.length, c⟩) (by rw [HX.out]; exact (show Res (bnd (singleP ((rcP reOk (50 - dp)).E false) (nx l)) fun ts l2 => .ok (PT.mk [114, 101, 116, 117, 114, 110] [] (tk l).a ts, l2)) (nx l) er (PT.mk [114, 101, 116, 117, 114, 110] [] (tk l).a ts) l5 er5 from HR5.out.bnd (Res.ret HR5.out.ne)) |> fun h => (single_bnd h).pre HTL.out.1) H6.out (HRW2.out.node [114, 101, 116, 117, 114, 110] [] (tk l).a) HK.out)
     ·
      by_cases h5 : S = [100, 101, 108, 101, 116, 101]
      ·
       subst h5
       clear h0 h1 h2 h3 h4
       have HX := kH (show simpleP (rcP reOk (50 - dp)) reOk l = bnd (elemP (rcP reOk (50 - dp)) oName (nx l)) fun t l2 => .ok (nd wDelete [t], l2) from by unfold simpleP; rw [if_neg (show ¬ (fx l = wBreak ∨ fx l = wContinue ∨ fx l = wNext) from by rw [hS]; decide)]; rw [if_neg (show ¬ (fx l = wExit ∨ fx l = wReturn) from by rw [hS]; decide)]; rw [if_pos (show fx l = wDelete from by rw [hS]; decide)])
       clear hS
       refine (CF.out _ H1.out.st).mono ?_
       rintro e w2 ⟨rfl, m2⟩
       have HN := kH (HN.out.onl m2.2 HNZ.out)
       have HT1 := kH (HT1.out.onl m2.2 HBHT1.out)
       have H2 := kH (H1.out.trans m2)
       clear m2
       go_wp2_with fail
       refine (CN.out _ H2.out.st).mono ?_
       rintro e w3 ⟨rfl, m3⟩
       have HN := kH (HN.out.onl m3.2 HNZ.out)
       have HT1 := kH (HT1.out.onl m3.2 HBHT1.out)
       have H3 := kH (H2.out.trans m3)
       clear m3
       unfold tokV
       go_wp2_with fail
       have HLT := kH HN.out.lt
       refine (CEl.out _ H3.out.st).mono ?_
       rintro e w4 ⟨t4, n4, l4, er4, rfl, r4, m4, tr4⟩
       have HN := kH (HN.out.onl m4.2 HNZ.out)
       have HT1 := kH (HT1.out.onl m4.2 HBHT1.out)
       have HR4 := kH r4
       have HT4 := kH (tr4.low (B1 := w.heap.size + 1) (by have := HLT.out; omega))
       have H4 := kH (H3.out.trans m4)
       clear m4 r4 tr4
       unfold An.val
       have HRW := kH (RwA.new1 (w := w4) (B0 := w.heap.size + 1) HT4.out (by have := HN.out.lt; omega))
       have HN := kH (HN.out.alloc (nB n4))
       have HT1 := kH (HT1.out.alloc (nB n4))
       have H4 := kH (H4.out.alloc (nB n4))
       go_wp2_with fail
       refine (CM.out _ _ _ _ _).mono ?_
       rintro e w5 ⟨rfl, hb5⟩
       have HRW := kH (HRW.out.below hb5)
       have HN := kH (HN.out.below hb5)
       have HT1 := kH (HT1.out.below hb5)
       have H5 := kH (H4.out.below hb5)
       clear hb5
       unfold An.val
       obtain ⟨z0, z1, z2, z3, zk0, zk1, zk2, zk3⟩ := HN.out.cells
       go_wp2_with fail
       exact bodyPost_ret (v := An.val ⟨bs wDelete, ⟨#[]⟩, 0, some ⟨w4.heap.size, 0, none⟩, 1, 1⟩) (by simp [results, Tryz.results70, go_sem, An.val, z0, z1, z2, z3] <;> rfl) rfl (NdPost.put (n := ⟨bs wDelete, ⟨#[]⟩, 0, some ⟨w4.heap.size, 0, none⟩, 1, 1⟩) (by rw [HX.out]; exact (HR4.out.bnd (Res.ret HR4.out.ne)).pre HTL.out.1) H5.out (HRW.out.nd wDelete) HK.out)
      ·
       by_cases h6 : S = [112, 114, 105, 110, 116]
       ·
        subst h6
        clear h0 h1 h2 h3 h4 h5
        have HX := kH (show simpleP (rcP reOk (50 - dp)) reOk l = printP (rcP reOk (50 - dp)) reOk [112, 114, 105, 110, 116] (nx l) from by unfold simpleP; rw [if_neg (show ¬ (fx l = wBreak ∨ fx l = wContinue ∨ fx l = wNext) from by rw [hS]; decide)]; rw [if_neg (show ¬ (fx l = wExit ∨ fx l = wReturn) from by rw [hS]; decide)]; rw [if_neg (show ¬ (fx l = wDelete) from by rw [hS]; decide)]; rw [if_pos (show fx l = wPrint ∨ fx l = wPrintf from by rw [hS]; decide)]; rw [hS])
        clear hS
        refine (CF.out _ H1.out.st).mono ?_
        rintro e w2 ⟨rfl, m2⟩
        have HN := kH (HN.out.onl m2.2 HNZ.out)
        have HT1 := kH (HT1.out.onl m2.2 HBHT1.out)
        have H2 := kH (H1.out.trans m2)
        clear m2
        go_wp2_with fail
        refine (CN.out _ H2.out.st).mono ?_
        rintro e w3 ⟨rfl, m3⟩
        have HN := kH (HN.out.onl m3.2 HNZ.out)
        have HT1 := kH (HT1.out.onl m3.2 HBHT1.out)
        have H3 := kH (H2.out.trans m3)
        clear m3
        unfold tokV
        go_wp2_with fail
        have HLT := kH HN.out.lt
        refine (CPr.out [112, 114, 105, 110, 116] _ H3.out.st).mono ?_
        rintro e w4 ⟨t4, n4, l4, er4, rfl, r4, m4, tr4⟩
        have HN := kH (HN.out.onl m4.2 HNZ.out)
        have HT1 := kH (HT1.out.onl m4.2 HBHT1.out)
        have HR4 := kH r4
        have HT4 := kH (tr4.low (B1 := w.heap.size + 1) (by have := HLT.out; omega))
        have H4 := kH (H3.out.trans m4)
        clear m4 r4 tr4
        unfold An.val
        obtain ⟨z0, z1, z2, z3, zk0, zk1, zk2, zk3⟩ := HN.out.cells
        go_wp2_with fail
        exact bodyPost_ret (v := An.val n4) (by simp [results, Tryz.results70, go_sem, An.val, z0, z1, z2, z3]) rfl (NdPost.put (n := n4) (by rw [HX.out]; exact HR4.out.pre HTL.out.1) H4.out (HT4.out) HK.out)
       ·
        by_cases h7 : S = [112, 114, 105, 110, 116, 102]
        ·
         subst h7
         clear h0 h1 h2 h3 h4 h5 h6
         have HX := kH (show simpleP (rcP reOk (50 - dp)) reOk l = printP (rcP reOk (50 - dp)) reOk [112, 114, 105, 110, 116, 102] (nx l) from by unfold simpleP; rw [if_neg (show ¬ (fx l = wBreak ∨ fx l = wContinue ∨ fx l = wNext) from by rw [hS]; decide)]; rw [if_neg (show ¬ (fx l = wExit ∨ fx l = wReturn) from by rw [hS]; decide)]; rw [if_neg (show ¬ (fx l = wDelete) from by rw [hS]; decide)]; rw [if_pos (show fx l = wPrint ∨ fx l = wPrintf from by rw [hS]; decide)]; rw [hS])
         clear hS
         refine (CF.out _ H1.out.st).mono ?_
         rintro e w2 ⟨rfl, m2⟩
         have HN := kH (HN.out.onl m2.2 HNZ.out)
         have HT1 := kH (HT1.out.onl m2.2 HBHT1.out)
         have H2 := kH (H1.out.trans m2)
         clear m2
         go_wp2_with fail
         refine (CN.out _ H2.out.st).mono ?_
         rintro e w3 ⟨rfl, m3⟩
         have HN := kH (HN.out.onl m3.2 HNZ.out)
         have HT1 := kH (HT1.out.onl m3.2 HBHT1.out)
         have H3 := kH (H2.out.trans m3)
         clear m3
         unfold tokV
         go_wp2_with fail
         have HLT := kH HN.out.lt
         refine (CPr.out [112, 114, 105, 110, 116, 102] _ H3.out.st).mono ?_
         rintro e w4 ⟨t4, n4, l4, er4, rfl, r4, m4, tr4⟩
         have HN := kH (HN.out.onl m4.2 HNZ.out)
         have HT1 := kH (HT1.out.onl m4.2 HBHT1.out)
         have HR4 := kH r4
         have HT4 := kH (tr4.low (B1 := w.heap.size + 1) (by have := HLT.out; omega))
         have H4 := kH (H3.out.trans m4)
         clear m4 r4 tr4
         unfold An.val
         obtain ⟨z0, z1, z2, z3, zk0, zk1, zk2, zk3⟩ := HN.out.cells
         go_wp2_with fail
         exact bodyPost_ret (v := An.val n4) (by simp [results, Tryz.results70, go_sem, An.val, z0, z1, z2, z3]) rfl (NdPost.put (n := n4) (by rw [HX.out]; exact HR4.out.pre HTL.out.1) H4.out (HT4.out) HK.out)
        ·
         have HX := kH (show simpleP (rcP reOk (50 - dp)) reOk l = bnd ((rcP reOk (50 - dp)).E false l) fun t l2 => .ok (nd [101, 120, 112, 114] [t], l2) from by unfold simpleP; rw [if_neg (show ¬ (fx l = wBreak ∨ fx l = wContinue ∨ fx l = wNext) from by rw [hS]; rintro (h | h | h); exact h0 h; exact h1 h; exact h2 h), if_neg (show ¬ (fx l = wExit ∨ fx l = wReturn) from by rw [hS]; rintro (h | h); exact h3 h; exact h4 h), if_neg (show ¬ fx l = wDelete from by rw [hS]; exact h5), if_neg (show ¬ (fx l = wPrint ∨ fx l = wPrintf) from by rw [hS]; rintro (h | h); exact h6 h; exact h7 h)])
         have g0 : (S == [98, 114, 101, 97, 107]) = false := by rw [beq_eq_false_iff_ne]; exact h0
         have g1 : (S == [99, 111, 110, 116, 105, 110, 117, 101]) = false := by rw [beq_eq_false_iff_ne]; exact h1
         have g2 : (S == [110, 101, 120, 116]) = false := by rw [beq_eq_false_iff_ne]; exact h2
         have g3 : (S == [101, 120, 105, 116]) = false := by rw [beq_eq_false_iff_ne]; exact h3
         have g4 : (S == [114, 101, 116, 117, 114, 110]) = false := by rw [beq_eq_false_iff_ne]; exact h4
         have g5 : (S == [100, 101, 108, 101, 116, 101]) = false := by rw [beq_eq_false_iff_ne]; exact h5
         have g6 : (S == [112, 114, 105, 110, 116]) = false := by rw [beq_eq_false_iff_ne]; exact h6
         have g7 : (S == [112, 114, 105, 110, 116, 102]) = false := by rw [beq_eq_false_iff_ne]; exact h7
         clear hS h0 h1 h2 h3 h4 h5 h6 h7
         refine (CF.out _ H1.out.st).mono ?_
         rintro e w2 ⟨rfl, m2⟩
         have HN := kH (HN.out.onl m2.2 HNZ.out)
         have HT1 := kH (HT1.out.onl m2.2 HBHT1.out)
         have H2 := kH (H1.out.trans m2)
         clear m2
         go_wp2_with fail
         have HLT := kH HN.out.lt
         refine (CX.out _ H2.out.st).mono ?_
         rintro e w3 ⟨t3, n3, l3, er3, rfl, r3, m3, tr3⟩
         have HN := kH (HN.out.onl m3.2 HNZ.out)
         have HT1 := kH (HT1.out.onl m3.2 HBHT1.out)
         have HR3 := kH r3
         have HT3 := kH (tr3.low (B1 := w.heap.size + 1) (by have := HLT.out; omega))
         have H3 := kH (H2.out.trans m3)
         clear m3 r3 tr3
         unfold An.val
         have HRW := kH (RwA.new1 (w := w3) (B0 := w.heap.size + 1) HT3.out (by have := HN.out.lt; omega))
         have HN := kH (HN.out.alloc (nB n3))
         have HT1 := kH (HT1.out.alloc (nB n3))
         have H3 := kH (H3.out.alloc (nB n3))
         go_wp2_with fail
         refine (CM.out _ _ _ _ _).mono ?_
         rintro e w4 ⟨rfl, hb4⟩
         have HRW := kH (HRW.out.below hb4)
         have HN := kH (HN.out.below hb4)
         have HT1 := kH (HT1.out.below hb4)
         have H4 := kH (H3.out.below hb4)
         clear hb4
         unfold An.val
         obtain ⟨z0, z1, z2, z3, zk0, zk1, zk2, zk3⟩ := HN.out.cells
         go_wp2_with fail
         exact bodyPost_ret (v := An.val ⟨bs [101, 120, 112, 114], ⟨#[]⟩, 0, some ⟨w3.heap.size, 0, none⟩, 1, 1⟩) (by simp [results, Tryz.results70, go_sem, An.val, z0, z1, z2, z3] <;> rfl) rfl (NdPost.put (n := ⟨bs [101, 120, 112, 114], ⟨#[]⟩, 0, some ⟨w3.heap.size, 0, none⟩, 1, 1⟩) (by rw [HX.out]; exact HR3.out.bnd (Res.ret HR3.out.ne)) H4.out (HRW.out.nd [101, 120, 112, 114]) HK.out)
end Go.Proofs.YtmbfdkiejneheaaGreatDoor
