/-
 CONTRACTS of layer 13's loop.
-/
import Derived.Test.YtmbfdkiejneheaaGreatDoorPaX9
namespace Go.Proofs.YtmbfdkiejneheaaGreatDoor
open Go.RowKit

theorem dead_put {K : Ps} {w w' : World} {l : List Tok} {dp : Nat} {pr : Bool} {er : ErO} {t : PT} {n : An} (hm : Mv K w l dp pr er w') (ht : TreeP w' (fun k => w.heap.size + 1 ≤ k) t n) (hK : K.b < w.heap.size ∧ K.g < w.heap.size) :
  ∃ t' n', Ending.returned (An.val n) = .returned (An.val n') ∧ Mv K w l dp pr er (putA w' w.heap.size n) ∧ TreeP (putA w' w.heap.size n) (fun k => w.heap.size ≤ k) t' n' :=
 ⟨t, n, rfl, Mv.putA hm (Nat.le_refl _) hK n, (ht.putA (fun k hk _ => by omega) n).low (Nat.le_succ _)⟩
set_option maxHeartbeats 8000000 in
set_option maxRecDepth 100000 in
theorem psimple_dead {reOk : List UInt8 → Bool} {K : Ps} (HRe : ReOk reOk) (l : List Tok) (e0 : Nat × Nat) (w : World) (hl : l.length = 1) (h : Pst w K l 51 false (some e0)) :
  Calls Tryz.prog 70 #[.pointer (some ⟨K.b, 0, none⟩)] w fun e w' => ∃ t n, e = .returned (An.val n) ∧ Mv K w l 51 false (some e0) w' ∧ TreeP w' (fun k => w.heap.size ≤ k) t n := by
 have CK := kH (ptok_any K l 51 false (some e0))
 have CF := kH (pfix_any K l 51 false (some e0))
 rw [(tl_one h.tll hl).1] at CF
 have CX := kH fun W hW => pexpr_dead (K := K) HRe false l e0 W hl hW
 have CM := kH fun o p n c W => pnode_any o p n c W
 have HK : Hid (K.b < w.heap.size ∧ K.g < w.heap.size) := kH ⟨h.lt, h.glt⟩
 have HNZ : Hid (w.heap.size ≠ K.b) := kH (by have := HK.out; omega)
 have HN := kH (BlkA.new0 w)
 have H0 := kH ((Mv.refl h).alloc zN)
 have HSZ : Hid (w.heap.size + 1 = (w.alloc zN).heap.size) := kH (by simp)
 clear HRe h hl
 go_enter Tryz.func70, Tryz.ntmps70
 go_wp2_with fail
 generalize w.alloc zN = w0 at *
 refine (CK.out _ H0.out.st).mono ?_
 rintro e w1 ⟨rfl, m1⟩
 have HN := kH (HN.out.onl m1.2 HNZ.out)
 have H1 := kH (H0.out.trans m1)
 clear m1
 have HBHT1 : Hid (w1.heap.size ≠ K.b) := kH (by have := H1.out.st.lt; omega)
 have HN := kH (HN.out.alloc (.cells #[.int .i64 ((tk l)).k, .string ⟨((tk l)).t.toArray⟩, .int .i64 ((tk l)).a] 60))
 have HT1 := kH (BlkT.new w1 (tk l))
 have H1 := kH (H1.out.alloc (.cells #[.int .i64 ((tk l)).k, .string ⟨((tk l)).t.toArray⟩, .int .i64 ((tk l)).a] 60))
 unfold tokV
 go_wp2_with fail
 refine (CF.out _ H1.out.st).mono ?_
 rintro e w2 ⟨rfl, m2⟩
 have HN := kH (HN.out.onl m2.2 HNZ.out)
 have HT1 := kH (HT1.out.onl m2.2 HBHT1.out)
 have H2 := kH (H1.out.trans m2)
 clear m2
 go_wp2_with fail
 have HLT := kH HN.out.lt
 refine (CX.out _ H2.out.st).mono ?_
 rintro e w3 ⟨t3, n3, rfl, m3, tr3⟩
 have HN := kH (HN.out.onl m3.2 HNZ.out)
 have HT1 := kH (HT1.out.onl m3.2 HBHT1.out)
 have H3 := kH (H2.out.trans m3)
 have HT3 := kH (tr3.low (B1 := w.heap.size + 1) (by have := HLT.out; omega))
 clear m3 tr3
 unfold An.val
 have HRW := kH (RwA.new1 (w := w3) (B0 := w.heap.size + 1) HT3.out (by have := HN.out.lt; omega))
 have HN := kH (HN.out.alloc (nB n3))
 have HT1 := kH (HT1.out.alloc (nB n3))
 have H3 := kH (H3.out.alloc (nB n3))
 go_wp2_with fail
 refine (CM.out _ _ _ _ _).mono ?_
 rintro e w4 ⟨rfl, hb4⟩
 have HRW := kH (HRW.out.below hb4)
 have HN := kH (HN.out.below hb4)
 have HT1 := kH (HT1.out.below hb4)
 have H4 := kH (H3.out.below hb4)
 clear hb4
 unfold An.val
 obtain ⟨z0, z1, z2, z3, zk0, zk1, zk2, zk3⟩ := HN.out.cells
 go_wp2_with fail
 exact bodyPost_ret (v := An.val ⟨bs [101, 120, 112, 114], ⟨#[]⟩, 0, some ⟨w3.heap.size, 0, none⟩, 1, 1⟩) (by simp [results, Tryz.results70, go_sem, An.val, z0, z1, z2, z3] <;> rfl) rfl (dead_put (n := ⟨bs [101, 120, 112, 114], ⟨#[]⟩, 0, some ⟨w3.heap.size, 0, none⟩, 1, 1⟩) H4.out (HRW.out.nd [101, 120, 112, 114]) HK.out)
end Go.Proofs.YtmbfdkiejneheaaGreatDoor

namespace Go.Proofs.YtmbfdkiejneheaaGreatDoor
open Go.RowKit

/-- The tokens that come, in memory. -/
theorem Pst.tokAt {w : World} {K : Ps} {l : List Tok} {dp : Nat} {pr : Bool} {er : ErO} (h : Pst w K l dp pr er) {i : Nat} (hi : K.L.length - l.length = i) {j : Nat} {t : Tok} (hj : l[j]? = some t) :
  i + j < K.L.length ∧ w.cell? ⟨K.g, (i + j) * 3, none⟩ = some (.int .i64 t.k) ∧ w.cell? ⟨K.g, (i + j) * 3 + 1, none⟩ = some (.string ⟨t.t.toArray⟩) := by
 obtain ⟨hlt, rfl⟩ := List.getElem?_eq_some_iff.1 hj
 obtain ⟨p, hp⟩ := h.suf
 have hpl : p.length + l.length = K.L.length := by rw [← hp]; simp
 have h1 : i + j < K.L.length := by omega
 have h2 : K.L[i + j] = l[j] := by
  have : i = p.length := by omega
  subst this
  simp only [← hp]
  rw [List.getElem_append_right (by omega)]
  congr 1
  omega
 exact ⟨h1, by rw [h.ts.k _ h1, h2], by rw [h.ts.t _ h1, h2]⟩
set_option maxHeartbeats 8000000 in
set_option maxRecDepth 100000 in
theorem pkeys_any (K : Ps) (l : List Tok) (dp : Nat) (pr : Bool) (er : ErO) : MvC 82 [] K l dp pr er (.returned (.bool (keysB l))) l dp pr er := by
 intro w h
 obtain ⟨i, hi⟩ : ∃ i, K.L.length - l.length = i := ⟨_, rfl⟩
 have hpos := h.pos
 have hcap := h.cap
 have HM := kH (Mv.refl h)
 obtain ⟨c0, c1, c2, c3, c4, c5, f1, f2, f3, f4, f5⟩ := h.rd.cells
 rw [hi] at c1
 have e1 : (0 : Int) ≤ (i : Int) := by omega
 have e2 : (i : Int) ≤ (K.L.length : Int) := by omega
 have e3 : (K.L.length : Int) ≤ (K.c : Int) := by omega
 by_cases h4 : l.length < 4
 ·
  have HX : Hid (keysB l = false) := kH (by
   match l, h4 with
   | [], _ => rfl
   | [_], _ => rfl
   | [_, _], _ => rfl
   | [_, _, _], _ => rfl
   | _ :: _ :: _ :: _ :: _, h => simp at h; omega)
  have hlt : ((K.L.length - i : Nat) : Int) < 4 := by omega
  clear h
  go_enter Tryz.func82, Tryz.ntmps82
  go_wp2_with fail
  go_region
  go_wp2_with fail
  go_ret
  rw [HX.out]
  exact ⟨rfl, HM.out.drew⟩
 ·
  obtain ⟨a, b, c, e, r, rfl⟩ : ∃ a b c e r, l = a :: b :: c :: e :: r := by
   match l, h4 with
   | [], h => simp at h
   | [_], h => simp at h
   | [_, _], h => simp at h
   | [_, _, _], h => simp at h
   | a :: b :: c :: e :: r, _ => exact ⟨a, b, c, e, r, rfl⟩
  obtain ⟨-, ak, at'⟩ := h.tokAt hi (j := 0) (t := a) rfl
  obtain ⟨-, bk, bt⟩ := h.tokAt hi (j := 1) (t := b) rfl
  obtain ⟨-, ck, ct⟩ := h.tokAt hi (j := 2) (t := c) rfl
  obtain ⟨hl3, ek, et⟩ := h.tokAt hi (j := 3) (t := e) rfl
  rw [show (i + 0) * 3 = i * 3 from by omega] at ak at'
  rw [show (i + 1) * 3 = i * 3 + 3 from by omega] at bk bt
  rw [show (i + 2) * 3 = i * 3 + 6 from by omega] at ck ct
  rw [show (i + 3) * 3 = i * 3 + 9 from by omega] at ek et
  have hlt : ¬ ((K.L.length - i : Nat) : Int) < 4 := by omega
  obtain ⟨n, hn⟩ : ∃ n, K.L.length - i = n := ⟨_, rfl⟩
  rw [hn] at hlt
  have g0 : 0 < n := by omega
  have g1 : 1 < n := by omega
  have g2 : 2 < n := by omega
  have g3 : 3 < n := by omega
  clear h h4 hpos
  by_cases h0 : a.k = 5
  ·
   have HKa : ((a.k : Int) == 5) = true := by simp [h0]
   by_cases h1 : b.k = 7
   ·
    have HKb : ((b.k : Int) == 7) = true := by simp [h1]
    by_cases h2 : b.t = [105, 110]
    ·
     rw [h2] at bt
     by_cases h3 : c.k = 5
     ·
      have HKc : ((c.k : Int) == 5) = true := by simp [h3]
      by_cases h4 : e.k = 1
      ·
       have HKe : ((e.k : Int) == 1) = true := by simp [h4]
       have HX : Hid (keysB (a :: b :: c :: e :: r) = true) := kH (by simp [keysB, h0, h1, h2, h3, h4])
       go_enter Tryz.func82, Tryz.ntmps82
       go_wp2_with fail
       go_region
       go_wp2_with fail
       go_ret
       rw [HX.out]
       exact ⟨rfl, HM.out.drew⟩
      ·
       have H1e : ((e.k : Int) == 1) = false := by rw [beq_eq_false_iff_ne]; omega
       by_cases h5 : e.k = 8
       ·
        have HK8 : ((e.k : Int) == 8) = true := by simp [h5]
        by_cases h6 : e.t = [41]
        ·
         rw [h6] at et
         have HX : Hid (keysB (a :: b :: c :: e :: r) = true) := kH (by simp [keysB, h0, h1, h2, h3, h5, h6])
         go_enter Tryz.func82, Tryz.ntmps82
         go_wp2_with fail
         go_region
         go_wp2_with fail
         go_ret
         rw [HX.out]
         exact ⟨rfl, HM.out.drew⟩
        ·
         have HTe : (e.t == [41]) = false := by rw [beq_eq_false_iff_ne]; exact h6
         have HX : Hid (keysB (a :: b :: c :: e :: r) = false) := kH (by simp [keysB, h0, h1, h2, h3, h4, h6])
         go_enter Tryz.func82, Tryz.ntmps82
         go_wp2_with fail
         go_region
         go_wp2_with fail
         go_ret
         rw [HX.out]
         exact ⟨rfl, HM.out.drew⟩
       ·
        have HK8 : ((e.k : Int) == 8) = false := by rw [beq_eq_false_iff_ne]; omega
        have HX : Hid (keysB (a :: b :: c :: e :: r) = false) := kH (by simp [keysB, h0, h1, h2, h3, h4, h5])
        go_enter Tryz.func82, Tryz.ntmps82
        go_wp2_with fail
        go_region
        go_wp2_with fail
        go_ret
        rw [HX.out]
        exact ⟨rfl, HM.out.drew⟩
     ·
      have HKc : ((c.k : Int) == 5) = false := by rw [beq_eq_false_iff_ne]; omega
      have HNc : ((c.k : Int) != 5) = true := by rw [bne_iff_ne]; omega
      have HX : Hid (keysB (a :: b :: c :: e :: r) = false) := kH (by simp [keysB, h0, h1, h2, h3])
      go_enter Tryz.func82, Tryz.ntmps82
      go_wp2_with fail
      go_region
      go_wp2_with fail
      go_ret
      rw [HX.out]
      exact ⟨rfl, HM.out.drew⟩
    ·
     have HTb : (b.t == [105, 110]) = false := by rw [beq_eq_false_iff_ne]; exact h2
     have HX : Hid (keysB (a :: b :: c :: e :: r) = false) := kH (by simp [keysB, h0, h1, h2])
     go_enter Tryz.func82, Tryz.ntmps82
     go_wp2_with fail
     go_region
     go_wp2_with fail
     go_ret
     rw [HX.out]
     exact ⟨rfl, HM.out.drew⟩
   ·
    have HKb : ((b.k : Int) == 7) = false := by rw [beq_eq_false_iff_ne]; omega
    have HNb : ((b.k : Int) != 7) = true := by rw [bne_iff_ne]; omega
    have HX : Hid (keysB (a :: b :: c :: e :: r) = false) := kH (by simp [keysB, h0, h1])
    go_enter Tryz.func82, Tryz.ntmps82
    go_wp2_with fail
    go_region
    go_wp2_with fail
    go_ret
    rw [HX.out]
    exact ⟨rfl, HM.out.drew⟩
  ·
   have HKa : ((a.k : Int) == 5) = false := by rw [beq_eq_false_iff_ne]; omega
   have HNa : ((a.k : Int) != 5) = true := by rw [bne_iff_ne]; omega
   have HX : Hid (keysB (a :: b :: c :: e :: r) = false) := kH (by simp [keysB, h0])
   go_enter Tryz.func82, Tryz.ntmps82
   go_wp2_with fail
   go_region
   go_wp2_with fail
   go_ret
   rw [HX.out]
   exact ⟨rfl, HM.out.drew⟩
end Go.Proofs.YtmbfdkiejneheaaGreatDoor

namespace Go.Proofs.YtmbfdkiejneheaaGreatDoor
open Go.RowKit

/-- A for's variables: the reader's place, the result, the first token, what it is. -/
structure Fs (w : World) (g : Nat) (K : Ps) (op : List UInt8) (t : Tok) : Prop where
 r : w.heap[g]? = some (.cells #[.pointer (some ⟨K.b, 0, none⟩)] 49 (0, 0))
 z : BlkA w (g + 1) An.zero
 t : BlkT w (g + 2) t
 o : w.heap[g + 3]? = some (.cells #[.string ⟨op.toArray⟩] 9 (0, 0))
structure FsC (w : World) (g : Nat) (K : Ps) (op : List UInt8) (t : Tok) : Prop where
 r : w.cell? ⟨g, 0, none⟩ = some (.pointer (some ⟨K.b, 0, none⟩))
 o : w.cell? ⟨g + 3, 0, none⟩ = some (.string ⟨op.toArray⟩)
 c0 : w.cell? ⟨g + 2, 0, none⟩ = some (.int .i64 t.k)
 c1 : w.cell? ⟨g + 2, 1, none⟩ = some (.string ⟨t.t.toArray⟩)
 c2 : w.cell? ⟨g + 2, 2, none⟩ = some (.int .i64 t.a)
 fo : w.frozen? ⟨g + 3, 0, none⟩ = false
 f0 : w.frozen? ⟨g + 2, 0, none⟩ = false
 f1 : w.frozen? ⟨g + 2, 1, none⟩ = false
 f2 : w.frozen? ⟨g + 2, 2, none⟩ = false
section
variable {w w' : World} {g : Nat} {K : Ps} {op : List UInt8} {t : Tok}
theorem Fs.cells (h : Fs w g K op t) : FsC w g K op t :=
 ⟨rg_cell h.r, rg_cell h.o, h.t.cells.c0, h.t.cells.c1, h.t.cells.c2, rg_frozen h.o, h.t.cells.f0, h.t.cells.f1, h.t.cells.f2⟩
theorem Fs.lt (h : Fs w g K op t) : g + 3 < w.heap.size := (Array.getElem?_eq_some_iff.1 h.o).1
theorem Fs.kept (h : Fs w g K op t) (hk : ∀ k, g ≤ k → k ≤ g + 3 → w'.heap[k]? = w.heap[k]?) : Fs w' g K op t :=
 ⟨(hk _ (by omega) (by omega)).trans h.r, (hk _ (by omega) (by omega)).trans h.z, (hk _ (by omega) (by omega)).trans h.t, (hk _ (by omega) (by omega)).trans h.o⟩
theorem Fs.onl (h : Fs w g K op t) (o : Onl K.b w w') (hb : K.b < g) : Fs w' g K op t := h.kept fun k hk h3 => o.block k (by have := h.lt; omega) (by omega)
theorem Fs.below (h : Fs w g K op t) (o : Below w.heap.size w w') : Fs w' g K op t := h.kept fun k hk h3 => o.block k (by have := h.lt; omega)
theorem Fs.alloc (h : Fs w g K op t) (o : Obj) : Fs (w.alloc o) g K op t := h.below ((Below.refl _ _).alloc (Nat.le_refl _) o)
theorem Fs.drew (h : Fs w g K op t) : Fs w.drew g K op t := h.kept fun _ _ _ => rfl
theorem Fs.set (h : Fs w g K op t) (op2 : List UInt8) (t2 : Tok) : Fs ((((w.setCell ⟨g + 3, 0, none⟩ (.string ⟨op2.toArray⟩)).setCell ⟨g + 2, 0, none⟩ (.int .i64 t2.k)).setCell ⟨g + 2, 1, none⟩ (.string ⟨t2.t.toArray⟩)).setCell ⟨g + 2, 2, none⟩ (.int .i64 t2.a)) g K op2 t2 := by
 have hb : ∀ k, k ≠ g + 3 → k ≠ g + 2 → ((((w.setCell ⟨g + 3, 0, none⟩ (.string ⟨op2.toArray⟩)).setCell ⟨g + 2, 0, none⟩ (.int .i64 t2.k)).setCell ⟨g + 2, 1, none⟩ (.string ⟨t2.t.toArray⟩)).setCell ⟨g + 2, 2, none⟩ (.int .i64 t2.a)).heap[k]? = w.heap[k]? := fun k h3 h2 => by
  rw [Below.heap_setCell _ _ _ k h2, Below.heap_setCell _ _ _ k h2, Below.heap_setCell _ _ _ k h2, Below.heap_setCell _ _ _ k h3]
 refine ⟨(hb g (by omega) (by omega)).trans h.r, (hb (g + 1) (by omega) (by omega)).trans h.z, ?_, ?_⟩
 ·
  have h0 : BlkT (w.setCell ⟨g + 3, 0, none⟩ (.string ⟨op2.toArray⟩)) (g + 2) t := h.t.setNew (by simp) _
  have h1 := rg_setCell h0 (i := 0) (.int .i64 t2.k)
  have h2 := rg_setCell h1 (i := 1) (.string ⟨t2.t.toArray⟩)
  have h3 := rg_setCell h2 (i := 2) (.int .i64 t2.a)
  exact h3
 ·
  rw [Below.heap_setCell _ _ _ _ (by simp), Below.heap_setCell _ _ _ _ (by simp), Below.heap_setCell _ _ _ _ (by simp)]
  exact rg_setCell h.o (i := 0) (.string ⟨op2.toArray⟩)
end
theorem Mv.setF {K : Ps} {u w : World} {l : List Tok} {dp : Nat} {pr : Bool} {er : ErO} {g : Nat} (h : Mv K u l dp pr er w) (hg : u.heap.size ≤ g) (hK : K.b < u.heap.size ∧ K.g < u.heap.size) (op2 : List UInt8) (t2 : Tok) : Mv K u l dp pr er ((((w.setCell ⟨g + 3, 0, none⟩ (.string ⟨op2.toArray⟩)).setCell ⟨g + 2, 0, none⟩ (.int .i64 t2.k)).setCell ⟨g + 2, 1, none⟩ (.string ⟨t2.t.toArray⟩)).setCell ⟨g + 2, 2, none⟩ (.int .i64 t2.a)) :=
 ⟨(((h.1.setNew (by simp; omega) (by simp; omega) _).setNew (by simp; omega) (by simp; omega) _).setNew (by simp; omega) (by simp; omega) _).setNew (by simp; omega) (by simp; omega) _,
  (((h.2.setNew (by simp; omega) _).setNew (by simp; omega) _).setNew (by simp; omega) _).setNew (by simp; omega) _⟩
/-- What is read within a for's brackets, and its variables behind it. -/
def FsPost (K : Ps) (u w : World) (g : Nat) (l : List Tok) (X : TR (List UInt8 × Tok × List PT)) (dp : Nat) (pr : Bool) (er : ErO) (e : Ending) (w' : World) : Prop :=
 ∃ op t ts ns p c l2 er2, e = .returned (.slice p ns.length c) ∧ Res X l er (op, t, ts) l2 er2 ∧ Mv K u l2 dp pr er2 w' ∧ Fs w' g K op t ∧ RwA w' w.heap.size ts ns (.slice p ns.length c) ∧ ns.length ≤ 3 ∧ w.heap.size ≤ w'.heap.size
def oForin : List UInt8 := [102, 111, 114, 105, 110]
def oFor : List UInt8 := [102, 111, 114]
theorem keys_eq {R : Rc} {reOk : List UInt8 → Bool} {l : List Tok} (h : keysB l = true) : forP R reOk l = bnd (nameP l) fun t l1 => bnd (wantP [105, 110] l1) fun _ l2 => bnd (nameP l2) fun t2 l3 => .ok ((oForin, t, [named oName t2 []]), l3) := by
 unfold forP
 rw [if_pos h]
 match l, h with
 | a :: b :: c :: e :: r, h =>
  simp only [keysB, Bool.and_eq_true, decide_eq_true_eq] at h
  obtain ⟨⟨⟨⟨ha, hb⟩, hbt⟩, hc⟩, -⟩ := h
  have n1 : nx (a :: b :: c :: e :: r) = b :: c :: e :: r := by simp [nx, tk, ha]
  have n2 : nx (b :: c :: e :: r) = c :: e :: r := by simp [nx, tk, hb]
  have n3 : fx (b :: c :: e :: r) = [105, 110] := by simp [fx, tk, hb, hbt]
  have n4 : nameP (a :: b :: c :: e :: r) = .ok (a, b :: c :: e :: r) := by simp [nameP, tk, ha, nx]
  have n5 : nameP (c :: e :: r) = .ok (c, e :: r) := by simp [nameP, tk, hc, nx]
  have n6 : nx (c :: e :: r) = e :: r := by simp [nx, tk, hc]
  rw [n4, bnd_ok, wantP, if_pos n3, bnd_ok, n2, n5, bnd_ok, n1, n2, n6]
  rfl
set_option maxHeartbeats 8000000 in
set_option maxRecDepth 100000 in
theorem ploop1_any {reOk : List UInt8 → Bool} {K : Ps} (HRe : ReOk reOk) (dp : Nat) (l : List Tok) (er : ErO) (u w : World) (g : Nat) (hd : dp ≤ 50) (hK : K.b < u.heap.size ∧ K.g < u.heap.size) (hg : u.heap.size ≤ g) (h : Mv K u l dp false er w) (hF : Fs w g K oFor noT) :
  Calls Tryz.prog 81 #[.pointer (some ⟨g, 0, none⟩), .pointer (some ⟨g + 3, 0, none⟩), .pointer (some ⟨g + 2, 0, none⟩)] w (FsPost K u w g l (forP (rcP reOk (50 - dp)) reOk l) dp false er) := by
 have CK := kH (pkeys_any K l dp false er)
 have CS := kH fun W hW => psteps_any (K := K) HRe dp l er W hd hW
 have CN := kH fun l1 er1 W hW => pwname_any K l1 dp false er1 W hW
 have CW := kH fun l1 er1 W hW => pwant_any K l1 dp false er1 [105, 110] W hW
 have CM := kH fun o t p n c W => pnamed_any o t p n c W
 have HK := kH hK
 have HGK : Hid (K.b < g ∧ K.g < g) := kH ⟨by omega, by omega⟩
 have HG := kH hg
 have HF := kH hF
 have HSZ : Hid (w.heap.size ≤ w.heap.size) := kH (Nat.le_refl _)
 have H0 := kH h
 clear h hF HRe hd hK hg
 cases hk : keysB l with
 | false =>
  have HX := kH hk
  rw [hk] at CK
  clear hk
  obtain ⟨qr, qo, q0, q1, q2, qfo, qf0, qf1, qf2⟩ := HF.out.cells
  go_enter Tryz.func81, Tryz.ntmps81
  go_wp2_with fail
  refine (CK.out _ H0.out.st).mono ?_
  rintro e w1 ⟨rfl, m1⟩
  have HW1 := kH m1.2.size
  have HF := kH (HF.out.onl m1.2 HGK.out.1)
  have H1 := kH (H0.out.trans m1)
  clear m1
  obtain ⟨qr, qo, q0, q1, q2, qfo, qf0, qf1, qf2⟩ := HF.out.cells
  go_wp2_with fail
  refine (CS.out _ H1.out.st).mono ?_
  rintro e w2 ⟨ts, ns, p, c, l2, er2, rfl, hn3, r2, m2, rw2⟩
  have HN3 := kH hn3
  have HZ1 := kH H1.out.2.size
  have HZ2 := kH m2.2.size
  have HRW := kH rw2
  have HF := kH (HF.out.onl m2.2 HGK.out.1)
  have HR2 := kH r2
  have H2 := kH (H1.out.trans m2)
  clear m2 r2 rw2 hn3
  go_wp2_with fail
  go_ret
  refine ⟨oFor, noT, ts, ns, p, c, l2, er2, by rw [HN3.out]; rfl, ?_, H2.out, HF.out, ?_, by rw [HN3.out]; exact Nat.le_refl _, ?_⟩
  ·
   unfold forP; rw [if_neg (by rw [HX.out]; simp)]
   exact HR2.out.bnd (Res.ret HR2.out.ne)
  ·
   rw [HN3.out]; exact HRW.out.low HW1.out
  ·
   exact Nat.le_trans HW1.out HZ2.out
 | true =>
  have HX := kH hk
  rw [hk] at CK
  clear hk
  obtain ⟨qr, qo, q0, q1, q2, qfo, qf0, qf1, qf2⟩ := HF.out.cells
  go_enter Tryz.func81, Tryz.ntmps81
  go_wp2_with fail
  refine (CK.out _ H0.out.st).mono ?_
  rintro e w1 ⟨rfl, m1⟩
  have HW1 := kH m1.2.size
  have HF := kH (HF.out.onl m1.2 HGK.out.1)
  have H1 := kH (H0.out.trans m1)
  clear m1
  obtain ⟨qr, qo, q0, q1, q2, qfo, qf0, qf1, qf2⟩ := HF.out.cells
  go_wp2_with fail
  refine (CN.out _ _ _ H1.out.st).mono ?_
  rintro e w2 ⟨t1, l1, er1, rfl, r2, m2⟩
  have HF := kH (HF.out.onl m2.2 HGK.out.1)
  have HR2 := kH r2
  have HZ2 := kH m2.2.size
  have H2 := kH (H1.out.trans m2)
  clear m2 r2
  obtain ⟨qr, qo, q0, q1, q2, qfo, qf0, qf1, qf2⟩ := HF.out.cells
  unfold tokV
  go_wp2_with fail
  have HF : Hid (Fs ((((w2.setCell ⟨g + 3, 0, none⟩ (.string ⟨#[102, 111, 114, 105, 110]⟩)).setCell ⟨g + 2, 0, none⟩ (.int .i64 t1.k)).setCell ⟨g + 2, 1, none⟩ (.string ⟨t1.t.toArray⟩)).setCell ⟨g + 2, 2, none⟩ (.int .i64 t1.a)) g K oForin t1) := kH (HF.out.set oForin t1)
  have H2 : Hid (Mv K u l1 dp false er1 ((((w2.setCell ⟨g + 3, 0, none⟩ (.string ⟨#[102, 111, 114, 105, 110]⟩)).setCell ⟨g + 2, 0, none⟩ (.int .i64 t1.k)).setCell ⟨g + 2, 1, none⟩ (.string ⟨t1.t.toArray⟩)).setCell ⟨g + 2, 2, none⟩ (.int .i64 t1.a))) := kH (H2.out.setF HG.out HK.out oForin t1)
  have HW2 : Hid (w.heap.size ≤ ((((w2.setCell ⟨g + 3, 0, none⟩ (.string ⟨#[102, 111, 114, 105, 110]⟩)).setCell ⟨g + 2, 0, none⟩ (.int .i64 t1.k)).setCell ⟨g + 2, 1, none⟩ (.string ⟨t1.t.toArray⟩)).setCell ⟨g + 2, 2, none⟩ (.int .i64 t1.a)).heap.size) := kH (by simp only [World.size_setCell]; exact Nat.le_trans HW1.out HZ2.out)
  clear qr qo q0 q1 q2 qfo qf0 qf1 qf2
  generalize ((((w2.setCell ⟨g + 3, 0, none⟩ (.string ⟨#[102, 111, 114, 105, 110]⟩)).setCell ⟨g + 2, 0, none⟩ (.int .i64 t1.k)).setCell ⟨g + 2, 1, none⟩ (.string ⟨t1.t.toArray⟩)).setCell ⟨g + 2, 2, none⟩ (.int .i64 t1.a)) = wa at *
  obtain ⟨qr, qo, q0, q1, q2, qfo, qf0, qf1, qf2⟩ := HF.out.cells
  refine (CW.out _ _ _ H2.out.st).mono ?_
  rintro e w3 ⟨l2, er2, rfl, r3, m3⟩
  have HF := kH (HF.out.onl m3.2 HGK.out.1)
  have HR3 := kH r3
  have HW3 := kH (Nat.le_trans HW2.out m3.2.size)
  have H3 := kH (H2.out.trans m3)
  clear m3 r3
  obtain ⟨qr, qo, q0, q1, q2, qfo, qf0, qf1, qf2⟩ := HF.out.cells
  go_wp2_with fail
  refine (CN.out _ _ _ H3.out.st).mono ?_
  rintro e w4 ⟨t2, l3, er3, rfl, r4, m4⟩
  have HF := kH (HF.out.onl m4.2 HGK.out.1)
  have HR4 := kH r4
  have HW4 := kH (Nat.le_trans HW3.out m4.2.size)
  have H4 := kH (H3.out.trans m4)
  clear m4 r4
  obtain ⟨qr, qo, q0, q1, q2, qfo, qf0, qf1, qf2⟩ := HF.out.cells
  unfold tokV
  go_wp2_with fail
  refine (CM.out _ t2 _ _ _ _).mono ?_
  rintro e w5 ⟨rfl, hb5⟩
  have HW5 := kH (Nat.le_trans HW4.out hb5.size)
  have HF := kH (HF.out.below hb5)
  have H5 := kH (H4.out.below hb5)
  clear hb5
  unfold An.val
  go_wp2_with fail
  go_ret
  have hrw := RwA.new1 (w := w5) (B0 := w.heap.size) (TreeP.leaf w5 (fun k => w.heap.size ≤ k) oName t2.t t2.a) HW5.out
  refine ⟨oForin, t1, [named oName t2 []], [⟨bs oName, bs t2.t, t2.a, none, 0, 0⟩], some ⟨w5.heap.size, 0, none⟩, 1, l3, er3, rfl, ?_, H5.out.alloc _, HF.out.alloc _, hrw, by simp, by simp; exact Nat.le_trans HW5.out (Nat.le_succ _)⟩
  rw [keys_eq HX.out]
  exact HR2.out.bnd (HR3.out.bnd (HR4.out.bnd (Res.ret HR4.out.ne)))
end Go.Proofs.YtmbfdkiejneheaaGreatDoor

namespace Go.Proofs.YtmbfdkiejneheaaGreatDoor
open Go.RowKit

set_option maxHeartbeats 8000000 in
set_option maxRecDepth 100000 in
theorem pwithin_for {K : Ps} {G : List Tok → TR (List UInt8 × Tok × List PT)} {dp : Nat} {u : World} {g : Nat} (hK : K.b < u.heap.size ∧ K.g < u.heap.size) (hg : u.heap.size ≤ g) {l : List Tok}
  (CG : ∀ l1 er W, l1 <:+ l → Mv K u l1 dp false er W → Fs W g K oFor noT → Calls Tryz.prog 81 #[.pointer (some ⟨g, 0, none⟩), .pointer (some ⟨g + 3, 0, none⟩), .pointer (some ⟨g + 2, 0, none⟩)] W (FsPost K u W g l1 (G l1) dp false er)) (o c : List UInt8) (pr : Bool) (er : ErO) (w : World) (h : Mv K u l dp pr er w) (hF : Fs w g K oFor noT) :
  Calls Tryz.prog 55 #[.pointer (some ⟨K.b, 0, none⟩), .string ⟨o.toArray⟩, .func (.func 81) #[] #[.pointer (some ⟨g, 0, none⟩), .pointer (some ⟨g + 3, 0, none⟩), .pointer (some ⟨g + 2, 0, none⟩)], .string ⟨c.toArray⟩] w (FsPost K u w g l (withinP o G c l) dp pr er) := by
 have hcf : ∀ xs w, (callFunc 81 xs).run Tryz.prog w = .ok (.enter 81 xs) w := fun _ _ => by kernel_rfl
 have CG := kH CG
 have CW := kH fun s l1 er1 w1 h1 => pwant_any K l1 dp false er1 s w1 h1
 have CL := kH fun l1 er1 => pnls_any K l1 dp false er1
 have HK := kH hK
 have HG := kH hg
 have HGK : Hid (K.b < g ∧ K.g < g) := kH ⟨by omega, by omega⟩
 have HSW : Hid (K.b < w.heap.size ∧ w.heap.size ≤ (w.setCell ⟨K.b, 3, none⟩ (.bool false)).heap.size) := kH ⟨h.st.lt, by rw [World.size_setCell]; exact Nat.le_refl _⟩
 obtain ⟨c0, c1, c2, c3, c4, c5, f1, f2, f3, f4, f5⟩ := h.st.rd.cells
 have H0 := kH (h.print false)
 have HF := kH (hF.onl ((Onl.refl K.b w).setCell 3 (.bool false)) HGK.out.1)
 clear h hF hK hg
 go_enter Tryz.func55, Tryz.ntmps55
 go_wp2_with fail
 refine (CW.out o _ _ _ H0.out.st).mono ?_
 rintro e w1 ⟨l1, er1, rfl, r1, m1⟩
 have H1 := kH (H0.out.trans m1)
 have HR1 := kH r1
 have HT1 := kH m1.st.tll
 have HF := kH (HF.out.onl m1.2 HGK.out.1)
 have HS1 := kH m1.2.size
 clear m1 r1
 go_wp2_with fail
 refine (CL.out _ _ _ H1.out.st).mono ?_
 rintro e w2 ⟨rfl, m2⟩
 have H2 := kH (H1.out.trans m2)
 have HL2 := kH HT1.out.nls.1
 have HF := kH (HF.out.onl m2.2 HGK.out.1)
 have HS2 := kH m2.2.size
 clear m2
 go_wp2_with fail
 refine (CG.out _ _ _ (HL2.out.trans HR1.out.suf) H2.out HF.out).mono ?_
 rintro e w3 ⟨op, t, ts, ns, p, k, l3, er3, rfl, r3, m3, hf3, rw3, ln3, hs3⟩
 have H3 := kH m3
 have HF := kH hf3
 have HR3 := kH (r3.pre HL2.out)
 have HS3 := kH (Nat.le_trans HSW.out.2 (Nat.le_trans HS1.out (Nat.le_trans HS2.out hs3)))
 have HRW3 := kH (rw3.low (n1 := w.heap.size) (Nat.le_trans HSW.out.2 (Nat.le_trans HS1.out HS2.out)))
 have HLN := kH ln3
 clear m3 r3 rw3 ln3 hf3 hs3
 go_wp2_with fail
 refine (CL.out _ _ _ H3.out.st).mono ?_
 rintro e w4 ⟨rfl, m4⟩
 have H4 := kH (H3.out.trans m4)
 have HRW4 := kH (HRW3.out.onl m4.2 HSW.out.1)
 have HF := kH (HF.out.onl m4.2 HGK.out.1)
 have HS4 := kH (Nat.le_trans HS3.out m4.2.size)
 have HL4 := kH H3.out.st.tll.nls.1
 clear m4
 go_wp2_with fail
 refine (CW.out c _ _ _ H4.out.st).mono ?_
 rintro e w5 ⟨l5, er5, rfl, r5, m5⟩
 have H5 := kH (H4.out.trans m5)
 have HRW5 := kH (HRW4.out.onl m5.2 HSW.out.1)
 have HF := kH (HF.out.onl m5.2 HGK.out.1)
 have HS5 := kH (Nat.le_trans HS4.out m5.2.size)
 have HR5 := kH (r5.pre HL4.out)
 clear m5 r5
 obtain ⟨c0, c1, c2, c3, c4, c5, f1, f2, f3, f4, f5⟩ := H5.out.st.rd.cells
 go_wp2_with fail
 go_ret
 refine ⟨op, t, ts, ns, p, k, l5, er5, rfl, ?_, H5.out.print pr, HF.out.onl ((Onl.refl K.b w5).setCell 3 _) HGK.out.1, (HRW5.out.onl ((Onl.refl K.b w5).setCell 3 _) HSW.out.1), HLN.out, by rw [World.size_setCell]; exact HS5.out⟩
 exact HR1.out.bnd (HR3.out.bnd (HR5.out.bnd (Res.ret HR5.out.ne)))
end Go.Proofs.YtmbfdkiejneheaaGreatDoor

namespace Go.Proofs.YtmbfdkiejneheaaGreatDoor
open Go.RowKit

theorem loop_eq {R : Rc} {S : List Tok → TR PT} {reOk : List UInt8 → Bool} {l : List Tok} : loopP R S reOk l = bnd (withinP [40] (forP R reOk) [41] l) fun x l2 => bnd (bodyP S l2) fun b l3 => .ok (named x.1 x.2.1 (x.2.2 ++ [b]), l3) := rfl
theorem Fs.new {w : World} {K : Ps} : Fs ((((w.alloc (.cells #[.pointer (some ⟨K.b, 0, none⟩)] 49)).alloc zN).alloc (.cells #[.int .i64 0, .string ⟨#[]⟩, .int .i64 0] 60)).alloc (.cells #[.string ⟨#[102, 111, 114]⟩] 9)) w.heap.size K oFor noT := by
 have h1 := heap_alloc_new w (.cells #[.pointer (some ⟨K.b, 0, none⟩)] 49)
 have h2 := BlkA.new0 (w.alloc (.cells #[.pointer (some ⟨K.b, 0, none⟩)] 49))
 have h3 := BlkT.new0 ((w.alloc (.cells #[.pointer (some ⟨K.b, 0, none⟩)] 49)).alloc zN)
 have h4 := heap_alloc_new (((w.alloc (.cells #[.pointer (some ⟨K.b, 0, none⟩)] 49)).alloc zN).alloc (.cells #[.int .i64 0, .string ⟨#[]⟩, .int .i64 0] 60)) (.cells #[.string ⟨#[102, 111, 114]⟩] 9)
 simp only [World.size_alloc] at h2 h3 h4
 refine ⟨?_, ((h2.alloc _).alloc _), h3.alloc _, h4⟩
 rw [Below.heap_alloc _ _ _ (by simp only [World.size_alloc]; omega), Below.heap_alloc _ _ _ (by simp only [World.size_alloc]; omega), Below.heap_alloc _ _ _ (by simp only [World.size_alloc]; omega)]
 exact h1
theorem wp_append_own_at {P : Program} {w : World} {o : Oper} {a : Act} {K : Act → World → Prop} {Q : Exit → Act → World → Prop} (s x : Operand) (t : TypeId)
  (ho : o.op = .call { callee := .builtin .append, args := #[s, x], argTypes := #[t, t] })
  (base : Nat) (e : TypeId) (i : TypeInfo) (z : Value) (size bytes : Nat) (ht : P.underlying t = some (.slice e)) (hi : P.info? e = some i) (hz : i.zero = some z)
  (hsize : i.size = size) (hby : i.bytes = bytes) (hzs : z.cells.size = size) (hsz : 0 < size)
  (v : Value) (n : Nat) (xs : List Value) (hs : a.eval s = v) (hown : w.ownsRow base e size v n xs)
  (ad : Addr) (m c : Nat) (news : List Value) (hx : a.eval x = .slice (some ad) m c) (hl : news.length = m * size) (hnews : ∀ j u, news[j]? = some u → w.cell? (ad.add j) = some u) (h1 : ∀ u ∈ news, u.oneCell' = true)
  (h63 : n + m ≤ maxLen) (hbytes : (n + m) * bytes ≤ 140737488355328) (hbase : base ≤ w.heap.size)
  (h : ∀ v' w', w'.ownsRow base e size v' (n + m) (xs ++ news) → w.grownBy w' v.ownBlock → (v' = .slice none 0 0 ↔ v = .slice none 0 0 ∧ m = 0) → (v'.ownBlock = v.ownBlock ∨ v'.ownBlock = some w.heap.size) → K (a.put o.dst v') w') : o.wp P a w K Q := by
 obtain ⟨v', w', hr, h2, h3, h4, h5⟩ := run_append_own_at (P := P) w base t o.type e i z size bytes ht hi hz hsize hby hzs hsz v n xs hown ad m c news hl hnews h1 h63 hbytes hbase
 unfold Oper.wp execOp
 simp only [ho, resolve, invoke, builtin, Sem.run_bind, Sem.run_pure, Result.andThen_ok, List.map_toArray, List.map_cons, List.map_nil, hs, hx, hr]
 exact h v' w' h2 h3 h4 h5
set_option maxHeartbeats 8000000 in
set_option maxRecDepth 100000 in
theorem ploop_any {reOk : List UInt8 → Bool} {K : Ps} {m : Nat} (HRe : ReOk reOk) (IS : OkS reOk K m) (dp : Nat) (l : List Tok) (er : ErO) (w : World) (hd : dp ≤ 50) (hl : l.length < m) (h : Pst w K l dp false er) :
  Calls Tryz.prog 69 #[.pointer (some ⟨K.b, 0, none⟩)] w (NdPost K w w.heap.size l (loopP (rcP reOk (50 - dp)) (stP reOk (50 - dp)) reOk l) dp false er) := by
 have CW := kH fun W (hW : Mv K w l dp false er W) hF => pwithin_for (K := K) (G := forP (rcP reOk (50 - dp)) reOk) (dp := dp) (u := w) (g := w.heap.size) ⟨h.lt, h.glt⟩ (Nat.le_refl _) (l := l) (fun l1 er1 W1 _ h1 hf => ploop1_any HRe dp l1 er1 w W1 w.heap.size hd ⟨h.lt, h.glt⟩ (Nat.le_refl _) h1 hf) [40] [41] false er W hW hF
 have CB := kH fun l1 er1 W (hs : l1 <:+ l) hW => pbody_any IS dp l1 er1 W hd (Nat.lt_of_le_of_lt hs.length_le hl) hW
 have CM := kH fun o t p n c W => pnamed_any o t p n c W
 have HLN : Hid (l.length ≤ 5000) := kH (by have := h.pos; omega)
 obtain ⟨i0, hi, hz0, hz1, hz2⟩ := info_parts Tryz.infoAst
 have HK : Hid (K.b < w.heap.size ∧ K.g < w.heap.size) := kH ⟨h.lt, h.glt⟩
 have HGK := kH HK.out
 have H0 := kH (((((Mv.refl h).alloc (.cells #[.pointer (some ⟨K.b, 0, none⟩)] 49)).alloc zN).alloc (.cells #[.int .i64 0, .string ⟨#[]⟩, .int .i64 0] 60)).alloc (.cells #[.string ⟨#[102, 111, 114]⟩] 9))
 have HF := kH (Fs.new (w := w) (K := K))
 have HSZ : Hid (w.heap.size + 4 = ((((w.alloc (.cells #[.pointer (some ⟨K.b, 0, none⟩)] 49)).alloc zN).alloc (.cells #[.int .i64 0, .string ⟨#[]⟩, .int .i64 0] 60)).alloc (.cells #[.string ⟨#[102, 111, 114]⟩] 9)).heap.size) := kH (by simp)
 clear h IS hd hl HRe
 go_enter Tryz.func69, Tryz.ntmps69
 go_wp2_with fail
 generalize ((((w.alloc (.cells #[.pointer (some ⟨K.b, 0, none⟩)] 49)).alloc zN).alloc (.cells #[.int .i64 0, .string ⟨#[]⟩, .int .i64 0] 60)).alloc (.cells #[.string ⟨#[102, 111, 114]⟩] 9)) = w0 at *
 refine (CW.out _ H0.out HF.out).mono ?_
 rintro e w1 ⟨op, t, ts, ns, p, c, l1, er1, rfl, r1, m1, hf1, rw1, ln1, hs1⟩
 have HSW := kH (show w.heap.size + 4 ≤ w1.drew.heap.size from show w.heap.size + 4 ≤ w1.heap.size from by have := HSZ.out; omega)
 have HF := kH hf1
 have HR1 := kH r1
 have HRW := kH (rw1.low (n1 := w.heap.size + 4) (Nat.le_of_eq HSZ.out))
 have HNS : Hid (ns.length ≤ 5500) := kH (by omega)
 have H1 := kH m1
 clear m1 r1 hf1 rw1 ln1 hs1
 obtain ⟨qr, qo, q0, q1, q2, qfo, qf0, qf1, qf2⟩ := HF.out.cells
 go_wp2_with fail
 have HF := kH (HF.out.drew)
 have HRW := kH (HRW.out.drew)
 have H1 := kH H1.out.drew
 refine wp_region_L (st := [8]) (S := fun Z => Fs Z w.heap.size K op t) (by kernel_rfl) (HF.out) (fun hHeld => ?_)
 generalize w1.drew = wd1 at *
 refine tkL 0 (v := ?_) rfl ?_ ?_
 rotate_left
 ·
  (intro w hSw; obtain ⟨qr, qo, q0, q1, q2, qfo, qf0, qf1, qf2⟩ := Fs.cells hSw; go_simp; try with_reducible rfl)
 try simp only [nrm]
 refine tkL 1 (v := ?_) rfl ?_ ?_
 rotate_left
 ·
  (intro w hSw; obtain ⟨qr, qo, q0, q1, q2, qfo, qf0, qf1, qf2⟩ := Fs.cells hSw; go_simp; try with_reducible rfl)
 try simp only [nrm]
 refine tkL 2 (v := ?_) rfl ?_ ?_
 rotate_left
 ·
  (intro w hSw; obtain ⟨qr, qo, q0, q1, q2, qfo, qf0, qf1, qf2⟩ := Fs.cells hSw; go_simp; try with_reducible rfl)
 try simp only [nrm]
 refine tkL 3 (v := ?_) rfl ?_ ?_
 rotate_left
 ·
  (intro w hSw; obtain ⟨qr, qo, q0, q1, q2, qfo, qf0, qf1, qf2⟩ := Fs.cells hSw; go_simp; try with_reducible rfl)
 try simp only [nrm]
 refine rdL 4 rfl (fun K2 hK => ?_)
 go_simp
 have HRV0 := HRW
 refine (CB.out _ _ _ HR1.out.suf H1.out.st).mono ?_
 rintro e w2 ⟨b, n, l2, er2, rfl, r2, m2, tr2⟩
 have HF := kH (HF.out.onl m2.2 HGK.out.1)
 have HRW := kH (HRW.out.onl m2.2 (by have := HK.out; omega))
 have HR2 := kH r2
 have HT2 := kH tr2
 have HRV : Hid (∀ g, (Value.slice p ns.length c).ownBlock = some g → w.heap.size + 4 ≤ g ∧ g < wd1.heap.size) := kH (rg_own_base HRV0.out.own)
 have H2 := kH (H1.out.trans m2)
 clear m2 r2 tr2
 unfold An.val
 refine hK.out _ _ (HF.out) (fun hHeld => ?_)
 clear hK K2
 try simp only [nrm]
 refine rdL 5 rfl (fun K2 hK => ?_)
 go_simp
 refine hK.out _ _ (HF.out.alloc _) (fun hHeld => ?_)
 clear hK K2
 try simp only [nrm]
 refine rdL 6 rfl (fun K2 hK => ?_)
 rw [if_pos (by kernel_rfl)]
 have HOW := kH HRW.out.own
 refine wp_append_own_at (.tmp 11) (.tmp 14) 23 rfl (w.heap.size + 4) 25 i0 (.agg #[.string ⟨#[]⟩, .string ⟨#[]⟩, .int .i64 0, .slice none 0 0]) 4 64 Tryz.underlying23 hi hz0 hz1 hz2 rfl (by decide) (.slice p ns.length c) ns.length (anRow ns) rfl (HOW.out.alloc _) ⟨w2.heap.size, 0, none⟩ 1 1 (An.vals n) rfl rfl ?c1 ?c2 ?c3 ?c4 ?c5 ?_
 case c1 => exact an_new w2 n
 case c2 => simp [An.vals, Value.oneCell']
 case c3 => have := HNS.out; unfold maxLen; omega
 case c4 => have := HNS.out; omega
 case c5 => have := HF.out.lt; simp; omega
 intro v3 w3 hown hgrow _ hat
 rw [World.size_alloc] at hat
 obtain ⟨g3, c3, rfl, hc9⟩ := rg_own_succ hown
 have hA := RwA.app HRW.out HT2.out (fun g hg => (HRV.out g hg).2) (HSW.out) hgrow hat hown
 have hM := Mv.app H2.out HK.out (fun g hg => by have := (HRV.out g hg).1; omega) hgrow
 have hF := HF.out.kept (w' := w3) (fun k hk h3 => ((grown_at hgrow (by have := HF.out.lt; simp; omega) (fun e => by have := (HRV.out _ e).1; omega)).trans (Below.heap_alloc w2 _ _ (by have := HF.out.lt; omega))))
 have hL : (ns ++ [n]).length = ns.length + 1 := by rw [List.length_append, List.length_singleton]
 have H3 := kH hM
 have HF := kH hF
 have HRW := kH hA
 have HL := kH hL
 clear hA hM hF hL hown hgrow hat hc9 HOW HRV HRV0
 refine hK.out _ _ (HF.out) (fun hHeld => ?_)
 clear hK K2
 try simp only [nrm]
 refine rdL 7 rfl (fun K2 hK => ?_)
 go_simp
 refine (CM.out ⟨op.toArray⟩ t _ _ _ _).mono ?_
 rintro e w4 ⟨rfl, hb4⟩
 have HRW := kH (HRW.out.below hb4)
 have HF := kH (HF.out.below hb4)
 have H4 := kH (H3.out.below hb4)
 clear hb4
 unfold An.val
 refine hK.out _ _ (HF.out) (fun hHeld => ?_)
 clear hK K2
 try simp only
 have HTF : Hid (TreeP w4 (fun k => w.heap.size ≤ k ∧ k ≠ w.heap.size + 1) (named op t (ts ++ [b])) ⟨bs op, bs t.t, t.a, some ⟨g3, 0, none⟩, ns.length + 1, c3⟩) := kH (by
  have := RwA.node (by have := HRW.out; rw [← HL.out] at this; exact this) op t.t t.a
  rw [HL.out] at this
  exact this.kept' (fun _ _ _ => rfl) (fun k hk _ => ⟨by omega, by omega⟩))
 refine wpAnyL_ready (rs := [8]) (by kernel_rfl) (by simp) ?_
 refine AllReadyL.store (o := _) rfl (by decide) (by decide) (fun K2 hK => ?_) AllReadyL.nil
 obtain ⟨z0, z1, z2, z3, zk0, zk1, zk2, zk3⟩ := HF.out.z.cells
 go_simp
 refine hK.out _ _ ?_
 clear hK K2
 try simp only [nrm]
 refine wpAnyL_done (by kernel_rfl) ?_ _
 go_wp2_with fail
 exact bodyPost_ret (v := An.val ⟨bs op, bs t.t, t.a, some ⟨g3, 0, none⟩, ns.length + 1, c3⟩) (by simp [results, Tryz.results69, go_sem, An.val, z0, z1, z2, z3] <;> rfl) rfl (NdPost.putG (n := ⟨bs op, bs t.t, t.a, some ⟨g3, 0, none⟩, ns.length + 1, c3⟩) (by rw [loop_eq]; exact HR1.out.bnd (HR2.out.bnd (Res.ret HR2.out.ne))) H4.out HTF.out (by omega) HK.out)
end Go.Proofs.YtmbfdkiejneheaaGreatDoor
