/-
  CONTRACT of the document's own lay (scriberef10): a tree's parts are laid.
-/
import Derived.Test.YtjjejcgpeefclaaDoorMfL1
namespace Go.Proofs.YtjjejcgpeefclaaDoor
open Go.RowKit

def PartsIs (ts : List RT) (pn : List RNd) : Prop := pn.length = ts.length ∧ ∀ (i : Nat) (u : RT) (a : RNd), ts[i]? = some u → pn[i]? = some a → a.op = (u.op : Int) ∧ SetIs u.op u.set a.set
theorem PartsIs.append {ts us : List RT} {pn qn : List RNd} (h : PartsIs ts pn) (h2 : PartsIs us qn) : PartsIs (ts ++ us) (pn ++ qn) := by
  refine ⟨by rw [List.length_append, List.length_append, h.1, h2.1], fun i u a hu ha => ?_⟩
  rcases Nat.lt_or_ge i ts.length with hi | hi
  · rw [List.getElem?_append_left hi] at hu
    rw [List.getElem?_append_left (by rw [h.1]; exact hi)] at ha
    exact h.2 i u a hu ha
  · rw [List.getElem?_append_right hi] at hu
    rw [List.getElem?_append_right (by rw [h.1]; exact hi), h.1] at ha
    exact h2.2 _ u a hu ha
theorem below_dr {B : Nat} {w w' : World} (h : Below B w w') : Below B w w'.drew := ⟨h.os, h.tape, h.output, h.size, h.block⟩
theorem below_al {B : Nat} {w w' : World} (h : Below B w w') (hB : B ≤ w'.heap.size) (o : Obj) : Below B w (w'.alloc o) := h.alloc hB o
theorem cells_new (w : World) (l : List Value) (ty : TypeId) : ∀ j u, l[j]? = some u → (w.alloc (.cells l.toArray ty)).cell? (Addr.add ⟨w.heap.size, 0, none⟩ j) = some u := by
  intro j u hj
  have h : (w.alloc (.cells l.toArray ty)).heap[w.heap.size]? = some (.cells l.toArray ty (0, 0)) := mt_heap_new _ _
  rw [show (Addr.add ⟨w.heap.size, 0, none⟩ j) = ⟨w.heap.size, j, none⟩ from by simp [Addr.add]; exact fun h => h.symm, rg_cell h]
  simpa using hj
/-- What lay leaves. -/
structure LayI (x y : Lv) (pn : List RNd) (kn : List (List Nat)) (en on : List Nat) (n : Nat) : Prop where
  ps : y.ps = x.ps ++ pn
  ks : y.ks = x.ks ++ kn
  es : y.es = x.es ++ en
  os : y.os = x.os ++ on
  le : en.length = n
  lo : on.length = n
def LayP (w : World) (p : Nat) (s : ByteArray) (x : Lv) (t : RT) (e : Ending) (w' : World) : Prop := ∃ (y : Lv) (pn : List RNd) (en on : List Nat), e = .returned (.int .i64 (x.ps.length : Int)) ∧ Ls w' p s y ∧ Below p w w' ∧ LayI x y pn (kix x.ps.length t) en on (sizeN t) ∧ PartsIs (pre t) pn
def LayC (t : RT) : Prop := ∀ (w : World) (p : Nat) (s : ByteArray) (x : Lv) (nd : RNd), s.size ≤ 100 → Ls w p s x → x.es.length = x.ps.length → x.os.length = x.ps.length → x.ps.length + sizeN t ≤ 100000 → TreeM w (fun g => g < p) t nd →
  Calls Tryd.prog 46 #[.pointer (some ⟨p, 0, none⟩), nd.val] w (LayP w p s x t)
theorem run_nmk (n : Nat) (hn : n ≤ 1000) (w : World) : (Instr.makeSlice 119 (.int .i64 ((n : Int) + 1)) (.int .i64 ((n : Int) + 1))).run Tryd.prog w = .ok (.slice (some ⟨w.heap.size, 0, none⟩) (n + 1) (n + 1)) (w.alloc (.cells (nils n) 101)) := run_nmake n hn w
theorem trees_at {w : World} {B : Nat → Prop} : ∀ {ts : List RT} {nds : List RNd}, TreesM w B ts nds → ∀ (i : Nat) (u : RT), ts[i]? = some u → ∃ a, nds[i]? = some a ∧ TreeM w B u a
  | [], nds, h, i, u, hu => by simp at hu
  | t :: ts, nds, h, i, u, hu => by
    unfold TreesM at h
    obtain ⟨nd, rest, rfl, h1, h2⟩ := h
    cases i with
    | zero =>
      obtain rfl : t = u := by simpa using hu
      exact ⟨nd, rfl, h1⟩
    | succ i => exact trees_at h2 i u (by simpa using hu)
theorem slice_of {w : World} {B : Nat} {e : TypeId} {z n : Nat} {v : Value} {xs : List Value} (h : w.ownsRow B e z v n xs) : ∃ p c, v = .slice p n c := by
  obtain ⟨p, c, h, _⟩ := rg_own_form h
  exact ⟨p, c, h⟩
set_option maxHeartbeats 8000000 in
set_option maxRecDepth 100000 in
theorem rlay_of (op : Nat) (st : W4) (ks : List RT) (IH : ∀ u ∈ ks, LayC u) : LayC (.mk op st ks) := by
  intro w p s x nd hs hls hxe hxo hsz htr
  obtain ⟨nop, nst, kp, kn, kc⟩ := nd
  unfold TreeM at htr
  obtain ⟨h1, h2, nds, h3, h4, h5⟩ := htr
  dsimp only at h1 h2
  obtain ⟨_, _, hkk, -⟩ := rg_own_form h3
  unfold RNd.kids at hkk h3 h4
  dsimp only at h3 h4 hkk
  injection hkk with hk1 hkn hk3
  subst hkn
  clear hk1 hk3
  obtain ⟨m, hm⟩ : ∃ m, x.ps.length = m := ⟨_, rfl⟩
  have hpl := hls.plt
  have hsz2 : m + sizeN (.mk op st ks) ≤ 100000 := by rw [← hm]; exact hsz
  have hkl : ks.length ≤ sizesN ks := by
    clear h5 h3 hsz hsz2 IH h4
    induction ks with
    | nil => simp
    | cons t ks ih => rw [sizesN, List.length_cons]; have := (pre_len t); cases t; rw [sizeN]; omega
  have hsn : sizeN (.mk op st ks) = 1 + sizesN ks := by rw [sizeN]
  have hsi : (s.size : Int) ≤ 100 := by omega
  obtain ⟨i0, hi0, hz0, hz1, hz2⟩ := info_parts Tryd.infoPt
  obtain ⟨i1, hi1, hy0, hy1, hy2⟩ := info_parts Tryd.infoSS
  obtain ⟨i2, hi2, hx0, hx1, hx2⟩ := info_parts Tryd.infoI
  obtain ⟨b1, hb1⟩ : ∃ b1, w.heap.size = b1 := ⟨_, rfl⟩
  obtain ⟨W1, hW1⟩ : ∃ W1, w.alloc (.cells #[.int .i64 nop, .string nst, .slice kp ks.length kc] 30) = W1 := ⟨_, rfl⟩
  have hbW1 : Below w.heap.size w W1 := by rw [← hW1]; exact (Below.refl _ _).alloc (Nat.le_refl _) _
  have hbx : W1.heap[b1]? = some (.cells #[.int .i64 nop, .string nst, .slice kp ks.length kc] 30 (0, 0)) := by rw [← hW1, ← hb1]; exact mt_heap_new _ _
  have hb1l : b1 < W1.heap.size := (Array.getElem?_eq_some_iff.1 hbx).1
  have hpb : p < b1 := by omega
  have HLS1 := Lib.hid (hls.next hbW1)
  have HBX := Lib.hid hbx
  have HBW := Lib.hid (show Below p w W1 from hbW1.mono (by omega))
  have HTR := Lib.hid (show TreesM w (fun g => g < p) ks nds from h5)
  have HRW := Lib.hid (show (∀ g, (Value.slice kp ks.length kc).ownBlock = some g → g < p) ∧ w.ownsRow 0 30 3 (.slice kp ks.length kc) ks.length (rdRow nds) from ⟨h4, h3⟩)
  have HSET := Lib.hid (show nop = (op : Int) ∧ SetIs op st nst from ⟨h1, h2⟩)
  have HIH := Lib.hid IH
  have HXE := Lib.hid hxe
  have HXO := Lib.hid hxo
  have HM := Lib.hid hm
  have HSN := Lib.hid hsn
  have HKL := Lib.hid hkl
  have HB1 := Lib.hid hb1
  obtain ⟨pL, cL, hvL⟩ := slice_of (hls.next hbW1).rowL
  rw [hm] at hvL
  have p1 : W1.cell? ⟨p, 1, none⟩ = some (.slice pL m cL) := by rw [← hvL]; exact rg_cell (hls.next hbW1).tab
  have HVL := Lib.hid hvL
  have HW1 := Lib.hid hW1
  obtain ⟨x0, x1, x2⟩ : W1.cell? ⟨b1, 0, none⟩ = some (.int .i64 nop) ∧ W1.cell? ⟨b1, 1, none⟩ = some (.string nst) ∧ W1.cell? ⟨b1, 2, none⟩ = some (.slice kp ks.length kc) := ⟨rg_cell hbx, rg_cell hbx, rg_cell hbx⟩
  have hmi : (m : Int) ≤ 100000 := by omega
  have hkl9 : ks.length ≤ 100000 := by omega
  clear hls h1 h2 h3 h4 h5 IH hxe hxo hsz hm hkl hsn hbx hbW1 hW1 hvL
  unfold RNd.val
  dsimp only
  go_enter Tryd.func46, Tryd.ntmps46
  go_upto_region 1 with fail
  rw [HW1.out]
  try rw [hb1]
  clear HW1 hb1
  go_wp2_with fail
  refine wp_region_L (st := [14]) (S := fun Z => Z.cell? ⟨p, 1, none⟩ = some (.slice pL m cL) ∧ Z.cell? ⟨b1, 0, none⟩ = some (.int .i64 nop) ∧ Z.cell? ⟨b1, 1, none⟩ = some (.string nst)) (by kernel_rfl) (⟨p1, x0, x1⟩) (fun hHeld => ?_)
  refine tkL 0 (v := ?_) rfl ?_ ?_
  rotate_left
  · (intro w hSw; obtain ⟨q0, q1, q2⟩ := hSw; go_simp; try with_reducible rfl)
  try simp only [nrm]
  refine tkL 1 (v := ?_) rfl ?_ ?_
  rotate_left
  · (intro w hSw; obtain ⟨q0, q1, q2⟩ := hSw; go_simp; try with_reducible rfl)
  try simp only [nrm]
  refine tkL 2 (v := ?_) rfl ?_ ?_
  rotate_left
  · (intro w hSw; obtain ⟨q0, q1, q2⟩ := hSw; go_simp; try with_reducible rfl)
  try simp only [nrm]
  refine tkL 3 (v := ?_) rfl ?_ ?_
  rotate_left
  · (intro w hSw; obtain ⟨q0, q1, q2⟩ := hSw; go_simp; try with_reducible rfl)
  try simp only [nrm]
  refine tkL 4 (v := ?_) rfl ?_ ?_
  rotate_left
  · (intro w hSw; obtain ⟨q0, q1, q2⟩ := hSw; go_simp; try with_reducible rfl)
  try simp only [nrm]
  refine tkL 5 (v := ?_) rfl ?_ ?_
  rotate_left
  · (intro w hSw; obtain ⟨q0, q1, q2⟩ := hSw; go_simp; try with_reducible rfl)
  try simp only [nrm]
  refine tkL 6 (v := ?_) rfl ?_ ?_
  rotate_left
  · (intro w hSw; obtain ⟨q0, q1, q2⟩ := hSw; go_simp; try with_reducible rfl)
  try simp only [nrm]
  refine tkL 7 (v := ?_) rfl ?_ ?_
  rotate_left
  · (intro w hSw; obtain ⟨q0, q1, q2⟩ := hSw; go_simp; try with_reducible rfl)
  try simp only [nrm]
  refine tkL 8 (v := ?_) rfl ?_ ?_
  rotate_left
  · (intro w hSw; obtain ⟨q0, q1, q2⟩ := hSw; go_simp; try with_reducible rfl)
  try simp only [nrm]
  refine tkL 9 (v := ?_) rfl ?_ ?_
  rotate_left
  · (intro w hSw; obtain ⟨q0, q1, q2⟩ := hSw; go_simp; try with_reducible rfl)
  try simp only [nrm]
  refine rdL 10 rfl (fun K hK => ?_)
  go_simp
  have hA : ∀ b, b < W1.heap.size → (W1.drew.alloc (.cells #[.int .i64 nop, .string nst, .slice none 0 0] 121)).heap[b]? = W1.heap[b]? := fun b hb => Below.heap_alloc W1.drew _ b hb
  have hpl1 : p < W1.heap.size := by omega
  refine hK.out _ _ (⟨cell_kept p1 (hA _ hpl1), cell_kept x0 (hA _ hb1l), cell_kept x1 (hA _ hb1l)⟩) (fun hHeld => ?_)
  clear hK K
  try simp only [nrm]
  refine rdL 11 rfl (fun K hK => ?_)
  rw [if_pos (by rfl)]
  have HLA : Hid (Ls (W1.drew.alloc (.cells #[.int .i64 nop, .string nst, .slice none 0 0] 121)) p s x) := Lib.hid (HLS1.out.next ((drew_below W1).alloc (Nat.le_refl _) _))
  refine wp_app_at _ _ 97 rfl (p + 1) 121 i0 (.agg #[.int .i64 0, .string ⟨#[]⟩, .slice none 0 0]) 3 48 Tryd.underlying97 hi0 hz0 hz1 hz2 rfl (by decide) (.slice pL m cL) m (rdRow x.ps) rfl (by have := HLA.out.rowL; rw [HVL.out, HM.out] at this; exact this) ⟨W1.heap.size, 0, none⟩ 1 1 (RNd.vals ⟨nop, nst, none, 0, 0⟩) rfl rfl ?r1 ?r2 ?r3 ?r4 ?r5 ?_
  case r1 => exact cells_new W1.drew (RNd.vals ⟨nop, nst, none, 0, 0⟩) _
  case r2 => simp [RNd.vals, Value.oneCell']
  case r3 => unfold maxLen; omega
  case r4 => omega
  case r5 => simp; omega
  intro v2 w9 hown9 hgrow9 _
  obtain ⟨g9, c9, rfl, -⟩ := rg_own_succ hown9
  have HP9 : Hid (Ls (w9.setCell ⟨p, 1, none⟩ (.slice (some ⟨g9, 0, none⟩) (m + 1) c9)) p s { x with ps := x.ps ++ [⟨nop, nst, none, 0, 0⟩], ks := x.ks ++ [[]], vL := .slice (some ⟨g9, 0, none⟩) (m + 1) c9 }) := Lib.hid (HLA.out.pushL rfl rfl (by rw [HM.out]; exact hown9) (by rw [HVL.out]; exact hgrow9))
  have hrb := rg_own_base (show (W1.drew.alloc (.cells #[.int .i64 nop, .string nst, .slice none 0 0] 121)).ownsRow (p + 1) 121 3 (.slice pL m cL) m (rdRow x.ps) by have := HLA.out.rowL; rw [HVL.out, HM.out] at this; exact this)
  have hne9 : ∀ b, b < W1.heap.size → b ≤ p ∨ b = b1 → w9.heap[b]? = W1.heap[b]? := fun b hb hor => by
    refine (hgrow9.block b (by simp; omega) (fun e => ?_)).trans (hA b hb)
    rcases hor with h | rfl
    · have := (hrb b e.symm).1; omega
    · exact own_cells (w := W1) HBX.out (show W1.ownsRow (p + 1) 121 3 (.slice pL m cL) m (rdRow x.ps) by have := HLS1.out.rowL; rw [HVL.out, HM.out] at this; exact this) (by decide) e
  have hpl9 := hne9 p hpl1 (.inl (Nat.le_refl _))
  have htb9 : w9.heap[p]? = some (.cells #[.string s, .slice pL m cL, x.vE, x.vO] 100 (0, 0)) := by rw [hpl9, ← HVL.out]; exact HLS1.out.tab
  have HBX9 : Hid (w9.heap[b1]? = some (.cells #[.int .i64 nop, .string nst, .slice kp ks.length kc] 30 (0, 0))) := Lib.hid ((hne9 b1 hb1l (.inr rfl)).trans HBX.out)
  have HBW9 : Hid (Below p w w9) := Lib.hid ((below_al (below_dr HBW.out) (by simp; omega) _).grown hgrow9 (by simp; omega) (fun j hj => by have := (hrb j hj).1; omega))
  clear hown9 hgrow9 hA hrb hne9 HLA
  refine hK.out _ _ (⟨rg_cell htb9, rg_cell HBX9.out, rg_cell HBX9.out⟩) (fun hHeld => ?_)
  clear hK K
  try simp only [nrm]
  refine tkL 12 (v := ?_) rfl ?_ ?_
  rotate_left
  · (intro w hSw; obtain ⟨q0, q1, q2⟩ := hSw; go_simp; try with_reducible rfl)
  try simp only [nrm]
  refine tkL 13 (v := ?_) rfl ?_ ?_
  rotate_left
  · (intro w hSw; obtain ⟨q0, q1, q2⟩ := hSw; go_simp; try with_reducible rfl)
  try simp only [nrm]
  have f1 : w9.frozen? ⟨p, 1, none⟩ = false := rg_frozen htb9
  obtain ⟨q0, q1, q2⟩ := hHeld
  refine wpAnyL_ready (rs := [14]) (by kernel_rfl) (by simp) ?_
  refine AllReadyL.store (o := _) rfl (by decide) (by decide) (fun K hK => ?_) AllReadyL.nil
  go_simp
  refine hK.out _ _ ?_
  clear hK K
  try simp only [nrm]
  refine wpAnyL_done (by kernel_rfl) ?_ _
  obtain ⟨W2, hW2⟩ : ∃ W2, w9.setCell ⟨p, 1, none⟩ (.slice (some ⟨g9, 0, none⟩) (m + 1) c9) = W2 := ⟨_, rfl⟩
  have ho2 : Onl p w9 W2 := by rw [← hW2]; exact (Onl.refl _ _).setCell _ _
  have HBX2 : Hid (W2.heap[b1]? = some (.cells #[.int .i64 nop, .string nst, .slice kp ks.length kc] 30 (0, 0))) := Lib.hid ((ho2.block b1 (Array.getElem?_eq_some_iff.1 HBX9.out).1 (by omega)).trans HBX9.out)
  have HBW2 : Hid (Below p w W2) := Lib.hid (by rw [← hW2]; exact HBW9.out.setCell (Nat.le_refl _) _)
  rw [hW2] at HP9
  clear hHeld p1 x0 x1 x2 f1 q0 q1 q2 htb9 hpl9 ho2 HBX9 HBW9 HBX HBW HLS1 HVL hb1l hpl1
  try rw [hW2]
  have HW2 := Lib.hid hW2
  clear hW2
  have hltW3 : p < W2.heap.size := HP9.out.plt
  have hb1W3 : b1 < W2.heap.size := (Array.getElem?_eq_some_iff.1 HBX2.out).1
  obtain ⟨pE, cE, hvE⟩ := slice_of HP9.out.rowE
  rw [show x.es.length = m from by rw [HXE.out, HM.out]] at hvE
  have HVE := Lib.hid hvE
  have p2 : W2.cell? ⟨p, 2, none⟩ = some (.slice pE m cE) := by rw [← hvE]; exact rg_cell HP9.out.tab
  have p0 : W2.cell? ⟨p, 0, none⟩ = some (.string s) := rg_cell HP9.out.tab
  have hmk := fun Z => run_nmk s.size (by omega) Z
  have w1 : IntKind.i64.wrap ((s.size : Int) + 1) = (s.size : Int) + 1 := by rw [IntKind.wrap_i64]; omega
  clear hvE
  go_wp2_with fail
  refine wp_region_L (st := [16]) (S := fun Z => Z.cell? ⟨p, 2, none⟩ = some (.slice pE m cE) ∧ Z.cell? ⟨p, 0, none⟩ = some (.string s)) (by kernel_rfl) (⟨p2, p0⟩) (fun hHeld => ?_)
  refine tkL 0 (v := ?_) rfl ?_ ?_
  rotate_left
  · (intro w hSw; obtain ⟨q0, q1⟩ := hSw; go_simp; try with_reducible rfl)
  try simp only [nrm]
  refine tkL 1 (v := ?_) rfl ?_ ?_
  rotate_left
  · (intro w hSw; obtain ⟨q0, q1⟩ := hSw; go_simp; try with_reducible rfl)
  try simp only [nrm]
  refine tkL 2 (v := ?_) rfl ?_ ?_
  rotate_left
  · (intro w hSw; obtain ⟨q0, q1⟩ := hSw; go_simp; try with_reducible rfl)
  try simp only [nrm]
  refine tkL 3 (v := ?_) rfl ?_ ?_
  rotate_left
  · (intro w hSw; obtain ⟨q0, q1⟩ := hSw; go_simp; try with_reducible rfl)
  try simp only [nrm]
  refine tkL 4 (v := ?_) rfl ?_ ?_
  rotate_left
  · (intro w hSw; obtain ⟨q0, q1⟩ := hSw; go_simp; try with_reducible rfl)
  try simp only [nrm]
  refine tkL 5 (v := ?_) rfl ?_ ?_
  rotate_left
  · (intro w hSw; obtain ⟨q0, q1⟩ := hSw; go_simp; try with_reducible rfl)
  try simp only [nrm]
  refine tkL 6 (v := ?_) rfl ?_ ?_
  rotate_left
  · (intro w hSw; obtain ⟨q0, q1⟩ := hSw; go_simp; try with_reducible rfl)
  try simp only [nrm]
  refine tkL 7 (v := ?_) rfl ?_ ?_
  rotate_left
  · (intro w hSw; obtain ⟨q0, q1⟩ := hSw; go_simp; try with_reducible rfl)
  try simp only [nrm]
  refine tkL 8 (v := ?_) rfl ?_ ?_
  rotate_left
  · (intro w hSw; obtain ⟨q0, q1⟩ := hSw; go_simp; try with_reducible rfl)
  try simp only [nrm]
  refine tkL 9 (v := ?_) rfl ?_ ?_
  rotate_left
  · (intro w hSw; obtain ⟨q0, q1⟩ := hSw; go_simp; try with_reducible rfl)
  try simp only [nrm]
  refine tkL 10 (v := ?_) rfl ?_ ?_
  rotate_left
  · (intro w hSw; obtain ⟨q0, q1⟩ := hSw; go_simp; try with_reducible rfl)
  try simp only [nrm]
  refine rdL 11 rfl (fun K hK => ?_)
  go_simp
  have hA : ∀ b, b < W2.heap.size → (W2.drew.alloc (.cells (nils s.size) 101)).heap[b]? = W2.heap[b]? := fun b hb => Below.heap_alloc W2.drew _ b hb
  refine hK.out _ _ (⟨cell_kept p2 (hA _ hltW3), cell_kept p0 (hA _ hltW3)⟩) (fun hHeld => ?_)
  clear hK K
  try simp only [nrm]
  refine rdL 12 rfl (fun K hK => ?_)
  go_simp
  have hB : ∀ b, b < W2.heap.size → ((W2.drew.alloc (.cells (nils s.size) 101)).alloc (.cells #[.slice (some ⟨W2.heap.size, 0, none⟩) (s.size + 1) (s.size + 1)] 119)).heap[b]? = W2.heap[b]? := fun b hb => (Below.heap_alloc (W2.drew.alloc (.cells (nils s.size) 101)) _ b (by simp; omega)).trans (hA b hb)
  refine hK.out _ _ (⟨cell_kept p2 (hB _ hltW3), cell_kept p0 (hB _ hltW3)⟩) (fun hHeld => ?_)
  clear hK K
  try simp only [nrm]
  refine rdL 13 rfl (fun K hK => ?_)
  rw [if_pos (by rfl)]
  have HR : Hid (((W2.drew.alloc (.cells (nils s.size) 101)).alloc (.cells #[.slice (some ⟨W2.heap.size, 0, none⟩) (s.size + 1) (s.size + 1)] 119)).ownsRow (p + 1) 119 1 (.slice pE m cE) m (x.es.map (slN s.size))) := Lib.hid (by have := HP9.out.rowE; rw [HVE.out, show x.es.length = m from by rw [HXE.out, HM.out]] at this; exact (this.drew.alloc _).alloc _)
  refine wp_app_at _ _ 98 rfl (p + 1) 119 i1 (.slice none 0 0) 1 24 Tryd.underlying98 hi1 hy0 hy1 hy2 rfl (by decide) (.slice pE m cE) m (x.es.map (slN s.size)) rfl HR.out ⟨W2.heap.size + 1, 0, none⟩ 1 1 [slN s.size W2.heap.size] rfl rfl ?E1 ?E2 ?E3 ?E4 ?E5 ?_
  case E1 => have := cells_new (W2.drew.alloc (.cells (nils s.size) 101)) [slN s.size W2.heap.size] 119; rw [show (W2.drew.alloc (.cells (nils s.size) 101)).heap.size = W2.heap.size + 1 from by simp] at this; exact this
  case E2 => simp [slN, Value.oneCell']
  case E3 => unfold maxLen; omega
  case E4 => omega
  case E5 => simp; omega
  intro v2 w10 hown hgrow hat
  obtain ⟨g10, c10, rfl, -⟩ := rg_own_succ hown
  have HP : Hid (Ls (w10.setCell ⟨p, 2, none⟩ (.slice (some ⟨g10, 0, none⟩) (m + 1) c10)) p s _) := Lib.hid (HP9.out.pushE (w1 := (W2.drew.alloc (.cells (nils s.size) 101)).alloc (.cells #[.slice (some ⟨W2.heap.size, 0, none⟩) (s.size + 1) (s.size + 1)] 119)) (e0 := W2.heap.size) (Nat.le_refl _) (((drew_below W2).alloc (Nat.le_refl _) _).alloc (by simp) _) ((Below.heap_alloc (W2.drew.alloc (.cells (nils s.size) 101)) _ _ (by simp)).trans (mt_heap_new _ _)) (by rw [show x.es.length = m from by rw [HXE.out, HM.out]]; exact hown) (by rw [HVE.out]; exact hgrow) (by
    rw [HVE.out]
    rcases hat with h | h
    · exact .inl h
    · exact .inr ⟨_, h, by simp; omega⟩))
  have hrb := rg_own_base HR.out
  have hneb : ∀ b, b < W2.heap.size → b ≤ p ∨ b = b1 → w10.heap[b]? = W2.heap[b]? := fun b hb hor => by
    refine (hgrow.block b (by simp; omega) (fun e => ?_)).trans (hB b hb)
    rcases hor with h | rfl
    · have := (hrb b e.symm).1; omega
    · exact own_cells (w := W2) HBX2.out (by have := HP9.out.rowE; rw [HVE.out] at this; exact this) (by decide) e
  have htb : w10.heap[p]? = some (.cells #[.string s, .slice (some ⟨g9, 0, none⟩) (m + 1) c9, x.vE, x.vO] 100 (0, 0)) := (hneb p hltW3 (.inl (Nat.le_refl _))).trans HP9.out.tab
  have HBX9 : Hid (w10.heap[b1]? = some (.cells #[.int .i64 nop, .string nst, .slice kp ks.length kc] 30 (0, 0))) := Lib.hid ((hneb b1 hb1W3 (.inr rfl)).trans HBX2.out)
  have HBW9 : Hid (Below p w w10) := Lib.hid ((below_al (below_al (below_dr HBW2.out) (by simp; omega) _) (by simp; omega) _).grown hgrow (by simp; omega) (fun j hj => by have := (hrb j hj).1; omega))
  rw [show x.vE = .slice pE m cE from HVE.out] at htb
  clear hown hgrow hat hA hB hrb hneb HR
  refine hK.out _ _ (⟨rg_cell htb, rg_cell htb⟩) (fun hHeld => ?_)
  clear hK K
  try simp only [nrm]
  refine tkL 14 (v := ?_) rfl ?_ ?_
  rotate_left
  · (intro w hSw; obtain ⟨q0, q1⟩ := hSw; go_simp; try with_reducible rfl)
  try simp only [nrm]
  refine tkL 15 (v := ?_) rfl ?_ ?_
  rotate_left
  · (intro w hSw; obtain ⟨q0, q1⟩ := hSw; go_simp; try with_reducible rfl)
  try simp only [nrm]
  have f1 : w10.frozen? ⟨p, 2, none⟩ = false := rg_frozen htb
  obtain ⟨q0, q1⟩ := hHeld
  refine wpAnyL_ready (rs := [16]) (by kernel_rfl) (by simp) ?_
  refine AllReadyL.store (o := _) rfl (by decide) (by decide) (fun K hK => ?_) AllReadyL.nil
  go_simp
  refine hK.out _ _ ?_
  clear hK K
  try simp only [nrm]
  refine wpAnyL_done (by kernel_rfl) ?_ _
  obtain ⟨W3, hW⟩ : ∃ W2, w10.setCell ⟨p, 2, none⟩ (.slice (some ⟨g10, 0, none⟩) (m + 1) c10) = W2 := ⟨_, rfl⟩
  have ho2 : Onl p w10 W3 := by rw [← hW]; exact (Onl.refl _ _).setCell _ _
  have HBX3 : Hid (W3.heap[b1]? = some (.cells #[.int .i64 nop, .string nst, .slice kp ks.length kc] 30 (0, 0))) := Lib.hid ((ho2.block b1 (Array.getElem?_eq_some_iff.1 HBX9.out).1 (by omega)).trans HBX9.out)
  have HBW3 : Hid (Below p w W3) := Lib.hid (by rw [← hW]; exact HBW9.out.setCell (Nat.le_refl _) _)
  rw [hW] at HP
  have HP3 := HP
  clear HP hHeld p0 p2 f1 q0 q1 htb ho2 HBX9 HBW9 HBX2 HBW2 HP9 hltW3 hb1W3 hmk w1
  try rw [hW]
  have HW3 := Lib.hid hW
  clear hW
  have hltW4 : p < W3.heap.size := HP3.out.plt
  have hb1W4 : b1 < W3.heap.size := (Array.getElem?_eq_some_iff.1 HBX3.out).1
  obtain ⟨pO, cO, hvO⟩ := slice_of HP3.out.rowO
  rw [show x.os.length = m from by rw [HXO.out, HM.out]] at hvO
  have HVO := Lib.hid hvO
  have p3 : W3.cell? ⟨p, 3, none⟩ = some (.slice pO m cO) := by rw [← hvO]; exact rg_cell HP3.out.tab
  have p0 : W3.cell? ⟨p, 0, none⟩ = some (.string s) := rg_cell HP3.out.tab
  have hmk := fun Z => run_nmk s.size (by omega) Z
  have w1 : IntKind.i64.wrap ((s.size : Int) + 1) = (s.size : Int) + 1 := by rw [IntKind.wrap_i64]; omega
  clear hvO
  go_wp2_with fail
  refine wp_region_L (st := [16]) (S := fun Z => Z.cell? ⟨p, 3, none⟩ = some (.slice pO m cO) ∧ Z.cell? ⟨p, 0, none⟩ = some (.string s)) (by kernel_rfl) (⟨p3, p0⟩) (fun hHeld => ?_)
  refine tkL 0 (v := ?_) rfl ?_ ?_
  rotate_left
  · (intro w hSw; obtain ⟨q0, q1⟩ := hSw; go_simp; try with_reducible rfl)
  try simp only [nrm]
  refine tkL 1 (v := ?_) rfl ?_ ?_
  rotate_left
  · (intro w hSw; obtain ⟨q0, q1⟩ := hSw; go_simp; try with_reducible rfl)
  try simp only [nrm]
  refine tkL 2 (v := ?_) rfl ?_ ?_
  rotate_left
  · (intro w hSw; obtain ⟨q0, q1⟩ := hSw; go_simp; try with_reducible rfl)
  try simp only [nrm]
  refine tkL 3 (v := ?_) rfl ?_ ?_
  rotate_left
  · (intro w hSw; obtain ⟨q0, q1⟩ := hSw; go_simp; try with_reducible rfl)
  try simp only [nrm]
  refine tkL 4 (v := ?_) rfl ?_ ?_
  rotate_left
  · (intro w hSw; obtain ⟨q0, q1⟩ := hSw; go_simp; try with_reducible rfl)
  try simp only [nrm]
  refine tkL 5 (v := ?_) rfl ?_ ?_
  rotate_left
  · (intro w hSw; obtain ⟨q0, q1⟩ := hSw; go_simp; try with_reducible rfl)
  try simp only [nrm]
  refine tkL 6 (v := ?_) rfl ?_ ?_
  rotate_left
  · (intro w hSw; obtain ⟨q0, q1⟩ := hSw; go_simp; try with_reducible rfl)
  try simp only [nrm]
  refine tkL 7 (v := ?_) rfl ?_ ?_
  rotate_left
  · (intro w hSw; obtain ⟨q0, q1⟩ := hSw; go_simp; try with_reducible rfl)
  try simp only [nrm]
  refine tkL 8 (v := ?_) rfl ?_ ?_
  rotate_left
  · (intro w hSw; obtain ⟨q0, q1⟩ := hSw; go_simp; try with_reducible rfl)
  try simp only [nrm]
  refine tkL 9 (v := ?_) rfl ?_ ?_
  rotate_left
  · (intro w hSw; obtain ⟨q0, q1⟩ := hSw; go_simp; try with_reducible rfl)
  try simp only [nrm]
  refine tkL 10 (v := ?_) rfl ?_ ?_
  rotate_left
  · (intro w hSw; obtain ⟨q0, q1⟩ := hSw; go_simp; try with_reducible rfl)
  try simp only [nrm]
  refine rdL 11 rfl (fun K hK => ?_)
  go_simp
  have hA : ∀ b, b < W3.heap.size → (W3.drew.alloc (.cells (nils s.size) 101)).heap[b]? = W3.heap[b]? := fun b hb => Below.heap_alloc W3.drew _ b hb
  refine hK.out _ _ (⟨cell_kept p3 (hA _ hltW4), cell_kept p0 (hA _ hltW4)⟩) (fun hHeld => ?_)
  clear hK K
  try simp only [nrm]
  refine rdL 12 rfl (fun K hK => ?_)
  go_simp
  have hB : ∀ b, b < W3.heap.size → ((W3.drew.alloc (.cells (nils s.size) 101)).alloc (.cells #[.slice (some ⟨W3.heap.size, 0, none⟩) (s.size + 1) (s.size + 1)] 119)).heap[b]? = W3.heap[b]? := fun b hb => (Below.heap_alloc (W3.drew.alloc (.cells (nils s.size) 101)) _ b (by simp; omega)).trans (hA b hb)
  refine hK.out _ _ (⟨cell_kept p3 (hB _ hltW4), cell_kept p0 (hB _ hltW4)⟩) (fun hHeld => ?_)
  clear hK K
  try simp only [nrm]
  refine rdL 13 rfl (fun K hK => ?_)
  rw [if_pos (by rfl)]
  have HR : Hid (((W3.drew.alloc (.cells (nils s.size) 101)).alloc (.cells #[.slice (some ⟨W3.heap.size, 0, none⟩) (s.size + 1) (s.size + 1)] 119)).ownsRow (p + 1) 119 1 (.slice pO m cO) m (x.os.map (slN s.size))) := Lib.hid (by have := HP3.out.rowO; rw [HVO.out, show x.os.length = m from by rw [HXO.out, HM.out]] at this; exact (this.drew.alloc _).alloc _)
  refine wp_app_at _ _ 98 rfl (p + 1) 119 i1 (.slice none 0 0) 1 24 Tryd.underlying98 hi1 hy0 hy1 hy2 rfl (by decide) (.slice pO m cO) m (x.os.map (slN s.size)) rfl HR.out ⟨W3.heap.size + 1, 0, none⟩ 1 1 [slN s.size W3.heap.size] rfl rfl ?O1 ?O2 ?O3 ?O4 ?O5 ?_
  case O1 => have := cells_new (W3.drew.alloc (.cells (nils s.size) 101)) [slN s.size W3.heap.size] 119; rw [show (W3.drew.alloc (.cells (nils s.size) 101)).heap.size = W3.heap.size + 1 from by simp] at this; exact this
  case O2 => simp [slN, Value.oneCell']
  case O3 => unfold maxLen; omega
  case O4 => omega
  case O5 => simp; omega
  intro v2 w11 hown hgrow hat
  obtain ⟨g11, c11, rfl, -⟩ := rg_own_succ hown
  have HP : Hid (Ls (w11.setCell ⟨p, 3, none⟩ (.slice (some ⟨g11, 0, none⟩) (m + 1) c11)) p s _) := Lib.hid (HP3.out.pushO (w1 := (W3.drew.alloc (.cells (nils s.size) 101)).alloc (.cells #[.slice (some ⟨W3.heap.size, 0, none⟩) (s.size + 1) (s.size + 1)] 119)) (e0 := W3.heap.size) (Nat.le_refl _) (((drew_below W3).alloc (Nat.le_refl _) _).alloc (by simp) _) ((Below.heap_alloc (W3.drew.alloc (.cells (nils s.size) 101)) _ _ (by simp)).trans (mt_heap_new _ _)) (by rw [show x.os.length = m from by rw [HXO.out, HM.out]]; exact hown) (by rw [HVO.out]; exact hgrow) (by
    rw [HVO.out]
    rcases hat with h | h
    · exact .inl h
    · exact .inr ⟨_, h, by simp; omega⟩))
  have hrb := rg_own_base HR.out
  have hneb : ∀ b, b < W3.heap.size → b ≤ p ∨ b = b1 → w11.heap[b]? = W3.heap[b]? := fun b hb hor => by
    refine (hgrow.block b (by simp; omega) (fun e => ?_)).trans (hB b hb)
    rcases hor with h | rfl
    · have := (hrb b e.symm).1; omega
    · exact own_cells (w := W3) HBX3.out (by have := HP3.out.rowO; rw [HVO.out] at this; exact this) (by decide) e
  have htb : w11.heap[p]? = some (.cells #[.string s, .slice (some ⟨g9, 0, none⟩) (m + 1) c9, .slice (some ⟨g10, 0, none⟩) (m + 1) c10, x.vO] 100 (0, 0)) := (hneb p hltW4 (.inl (Nat.le_refl _))).trans HP3.out.tab
  have HBX9 : Hid (w11.heap[b1]? = some (.cells #[.int .i64 nop, .string nst, .slice kp ks.length kc] 30 (0, 0))) := Lib.hid ((hneb b1 hb1W4 (.inr rfl)).trans HBX3.out)
  have HBW9 : Hid (Below p w w11) := Lib.hid ((below_al (below_al (below_dr HBW3.out) (by simp; omega) _) (by simp; omega) _).grown hgrow (by simp; omega) (fun j hj => by have := (hrb j hj).1; omega))
  rw [show x.vO = .slice pO m cO from HVO.out] at htb
  clear hown hgrow hat hA hB hrb hneb HR
  refine hK.out _ _ (⟨rg_cell htb, rg_cell htb⟩) (fun hHeld => ?_)
  clear hK K
  try simp only [nrm]
  refine tkL 14 (v := ?_) rfl ?_ ?_
  rotate_left
  · (intro w hSw; obtain ⟨q0, q1⟩ := hSw; go_simp; try with_reducible rfl)
  try simp only [nrm]
  refine tkL 15 (v := ?_) rfl ?_ ?_
  rotate_left
  · (intro w hSw; obtain ⟨q0, q1⟩ := hSw; go_simp; try with_reducible rfl)
  try simp only [nrm]
  have f1 : w11.frozen? ⟨p, 3, none⟩ = false := rg_frozen htb
  obtain ⟨q0, q1⟩ := hHeld
  refine wpAnyL_ready (rs := [16]) (by kernel_rfl) (by simp) ?_
  refine AllReadyL.store (o := _) rfl (by decide) (by decide) (fun K hK => ?_) AllReadyL.nil
  go_simp
  refine hK.out _ _ ?_
  clear hK K
  try simp only [nrm]
  refine wpAnyL_done (by kernel_rfl) ?_ _
  obtain ⟨W4, hW⟩ : ∃ W2, w11.setCell ⟨p, 3, none⟩ (.slice (some ⟨g11, 0, none⟩) (m + 1) c11) = W2 := ⟨_, rfl⟩
  have ho2 : Onl p w11 W4 := by rw [← hW]; exact (Onl.refl _ _).setCell _ _
  have HBX4 : Hid (W4.heap[b1]? = some (.cells #[.int .i64 nop, .string nst, .slice kp ks.length kc] 30 (0, 0))) := Lib.hid ((ho2.block b1 (Array.getElem?_eq_some_iff.1 HBX9.out).1 (by omega)).trans HBX9.out)
  have HBW4 : Hid (Below p w W4) := Lib.hid (by rw [← hW]; exact HBW9.out.setCell (Nat.le_refl _) _)
  rw [hW] at HP
  have HP4 := HP
  clear HP hHeld p0 p3 f1 q0 q1 htb ho2 HBX9 HBW9 HBX3 HBW3 HP3 hltW4 hb1W4 hmk w1
  try rw [hW]
  have HW4 := Lib.hid hW
  clear hW
  have hb14 := (Array.getElem?_eq_some_iff.1 HBX4.out).1
  have x2 : W4.cell? ⟨b1, 2, none⟩ = some (.slice kp ks.length kc) := rg_cell HBX4.out
  have HI0 : Hid (LayI x { x with ps := x.ps ++ [⟨nop, nst, none, 0, 0⟩], ks := x.ks ++ [[]], es := x.es ++ [W2.heap.size], os := x.os ++ [W3.heap.size], vL := .slice (some ⟨g9, 0, none⟩) (m + 1) c9, vE := .slice (some ⟨g10, 0, none⟩) (m + 1) c10, vO := .slice (some ⟨g11, 0, none⟩) (m + 1) c11 } [⟨nop, nst, none, 0, 0⟩] [[]] [W2.heap.size] [W3.heap.size] 1) := Lib.hid ⟨rfl, rfl, rfl, rfl, rfl, rfl⟩
  obtain ⟨y0, hy0x⟩ : ∃ y0 : Lv, ({ x with ps := x.ps ++ [⟨nop, nst, none, 0, 0⟩], ks := x.ks ++ [[]], es := x.es ++ [W2.heap.size], os := x.os ++ [W3.heap.size], vL := .slice (some ⟨g9, 0, none⟩) (m + 1) c9, vE := .slice (some ⟨g10, 0, none⟩) (m + 1) c10, vO := .slice (some ⟨g11, 0, none⟩) (m + 1) c11 } : Lv) = y0 := ⟨_, rfl⟩
  have HY0 : Hid (Ls W4 p s y0) := Lib.hid (by rw [← hy0x]; exact HP4.out)
  rw [hy0x] at HI0
  clear hy0x HP4 HVE HVO HW2 HW3 HW4
  go_wp2_with fail
  go_loopw [63] (fun kv wr => ∃ (i : Nat) (y : Lv) (a : RNd) (pn : List RNd) (en on : List Nat), i ≤ ks.length ∧ kv = .int .i64 (i : Int) ∧ Hid (Ls wr p s y) ∧ Hid (LayI x y (a :: pn) (idx (m + 1) (ks.take i) :: kixL (m + 1) (ks.take i)) en on (1 + sizesN (ks.take i))) ∧ Hid (a.op = (op : Int) ∧ a.set = nst) ∧ Hid (PartsIs (preL (ks.take i)) pn) ∧ Hid (Below p w wr))
    (fun kv _ => ks.length - (intOf kv).toNat)
  case atStart => exact ⟨0, y0, _, [], _, _, Nat.zero_le _, rfl, HY0, HI0, Lib.hid ⟨HSET.out.1, rfl⟩, Lib.hid ⟨rfl, fun i u a h => by simp [preL] at h⟩, HBW4⟩
  case round =>
    obtain ⟨i, y, a, pn, en, on, hi, rfl, HY, HI, HA, HPN, HBR⟩ := hrel
    clear HY0 HI0 HBX4 HBW4 hb14 x2
    by_cases hil : i < ks.length
    · obtain ⟨u, hu⟩ : ∃ u, ks[i]? = some u := ⟨_, List.getElem?_eq_getElem hil⟩
      obtain ⟨b, hb, htu⟩ := trees_at HTR.out i u hu
      have htk : ks.take (i + 1) = ks.take i ++ [u] := by
        rw [List.take_add_one, hu]; rfl
      have hsm : sizesN (ks.take (i + 1)) ≤ sizesN ks := by
        conv => rhs; rw [← List.take_append_drop (i + 1) ks, sizesN_append]
        omega
      have hsu : sizesN (ks.take (i + 1)) = sizesN (ks.take i) + sizeN u := by rw [htk, sizesN_append]; simp [sizesN]
      have hnl : nds.length = ks.length := HTR.out.len
      have hrow := HRW.out.2
      rw [← hnl] at hrow
      obtain ⟨gk, kc2, hkp⟩ : ∃ gk c, (Value.slice kp nds.length kc) = .slice (some ⟨gk, 0, none⟩) nds.length c := by
        rcases hrow.2 with ⟨h, h2⟩ | ⟨g, c, _, h, _⟩
        · omega
        · exact ⟨g, c, h⟩
      have hgk : gk < p := HRW.out.1 gk (by rw [← hnl, hkp]; rfl)
      injection hkp with hkp1 _ hkp3
      subst hkp1
      subst hkp3
      have hgw : gk < w.heap.size := by omega
      obtain ⟨d0, d1, d2⟩ := rdRow_cells (w := w) (c := kc) hrow i b hb
      have hbg := HBR.out.block gk hgk
      have d0 : wr.cell? ⟨gk, i * 3, none⟩ = some (.int .i64 b.op) := cell_kept d0 hbg
      have d1 : wr.cell? ⟨gk, i * 3 + 1, none⟩ = some (.string b.set) := cell_kept d1 hbg
      have d2 : wr.cell? ⟨gk, i * 3 + 2, none⟩ = some (.slice b.kp b.kn b.kc) := cell_kept d2 hbg
      obtain ⟨W5, hW5⟩ : ∃ W5, wr.alloc (.cells #[.int .i64 b.op, .string b.set, .slice b.kp b.kn b.kc] 30) = W5 := ⟨_, rfl⟩
      have hb5 : Below wr.heap.size wr W5 := by rw [← hW5]; exact (Below.refl _ _).alloc (Nat.le_refl _) _
      have hplr := HY.out.plt
      have hbx5 : W5.heap[wr.heap.size]? = some (.cells #[.int .i64 b.op, .string b.set, .slice b.kp b.kn b.kc] 30 (0, 0)) := by rw [← hW5]; exact mt_heap_new _ _
      have n0 : W5.cell? ⟨wr.heap.size, 0, none⟩ = some (.int .i64 b.op) := rg_cell hbx5
      have n1 : W5.cell? ⟨wr.heap.size, 1, none⟩ = some (.string b.set) := rg_cell hbx5
      have n2 : W5.cell? ⟨wr.heap.size, 2, none⟩ = some (.slice b.kp b.kn b.kc) := rg_cell hbx5
      have HY5 := Lib.hid (HY.out.next hb5)
      have hbp5 : Below p w W5 := HBR.out.trans (hb5.mono (by omega))
      have HBP5 := Lib.hid hbp5
      have hyl : y.ps.length = m + (1 + sizesN (ks.take i)) := by
        rw [HI.out.ps, List.length_append, HM.out, List.length_cons, HPN.out.1, preL_len]; omega
      have hyE : y.es.length = y.ps.length := by rw [hyl, HI.out.es, List.length_append, HI.out.le, HXE.out, HM.out]
      have hyO : y.os.length = y.ps.length := by rw [hyl, HI.out.os, List.length_append, HI.out.lo, HXO.out, HM.out]
      have HC : Hid (Calls Tryd.prog 46 #[.pointer (some ⟨p, 0, none⟩), .agg #[.int .i64 b.op, .string b.set, .slice b.kp b.kn b.kc]] W5 (LayP W5 p s y u)) := Lib.hid (HIH.out u (List.mem_of_getElem? hu) W5 p s y b hs HY5.out hyE hyO (by have := HSN.out; omega) (htu.kept (fun g hg _ => hbp5.block g hg) (fun g hg _ => hg)))
      have HU := Lib.hid hu
      have HTK := Lib.hid htk
      have HYL := Lib.hid hyl
      have HSU := Lib.hid (And.intro hsm hsu)
      have HW5 := Lib.hid hW5
      have HHB := Lib.hid hb
      clear hb5 hbp5 hW5 hbx5 hyE hyO hyl hsu hsm htk hu htu hrow hbg hb
      go_upto_region 8 with fail
      rw [HW5.out]
      clear HW5 d0 d1 d2
      go_wp2_with fail
      refine HC.out.mono ?_
      rintro e w6 ⟨z, pm, em, om, rfl, hz, hbz, hiz, hpz⟩
      have hyl := HYL.out
      rw [hyl] at hiz ⊢
      clear n0 n1 n2 HC
      have hak : z.ps[m]? = some a := by
        rw [hiz.ps, HI.out.ps, List.append_assoc, List.getElem?_append_right (by rw [HM.out]; exact Nat.le_refl _), HM.out, Nat.sub_self]; rfl
      have hlk : z.ks[m]? = some (idx (m + 1) (ks.take i)) := by
        have hxk : x.ks.length = m := by
          have h1 := HY.out.lp
          rw [HI.out.ps, HI.out.ks, List.length_append, List.length_append, List.length_cons, List.length_cons, kixL_len, HPN.out.1, preL_len, HM.out] at h1
          omega
        rw [hiz.ks, HI.out.ks, List.append_assoc, List.getElem?_append_right (by omega), hxk, Nat.sub_self]; rfl
      have hzl : z.ps.length = m + (1 + sizesN (ks.take i)) + sizeN u := by
        rw [hiz.ps, List.length_append, hyl, hpz.1, pre_len]
      obtain ⟨nz, hnz⟩ : ∃ nz, z.ps.length = nz := ⟨_, rfl⟩
      obtain ⟨bl, cl, hbl⟩ : ∃ bl cl, z.vL = .slice (some ⟨bl, 0, none⟩) nz cl := by
        have h1 := hz.rowL
        rw [hnz] at h1
        rcases h1.2 with ⟨_, h2⟩ | ⟨g, c, _, h2, _⟩
        · omega
        · exact ⟨g, c, h2⟩
      have hrl := hz.rowL
      rw [hnz, hbl] at hrl
      have hkids := (hz.kids m a _ hak hlk)
      obtain ⟨kb, hkb⟩ : ∃ kb, a.kp = kb := ⟨_, rfl⟩
      obtain ⟨nl, hnl2⟩ : ∃ nl, (idx (m + 1) (ks.take i)).length = nl := ⟨_, rfl⟩
      have hrk := hkids.1
      unfold RNd.kids at hrk
      rw [hkids.2, hnl2] at hrk
      have t1 : w6.cell? ⟨p, 1, none⟩ = some (.slice (some ⟨bl, 0, none⟩) nz cl) := by rw [← hbl]; exact rg_cell hz.tab
      have hmz : m < nz := by omega
      have t2 : w6.cell? ⟨bl, m * 3 + 2, none⟩ = some (.slice a.kp nl a.kc) := by
        rw [hrl.cellAt (m * 3 + 2) (by omega), rdRow_get z.ps m 2 (by rw [hnz]; exact hmz) (by omega), show z.ps[m]'(by rw [hnz]; exact hmz) = a from by
          have := hak
          rw [List.getElem?_eq_getElem (by rw [hnz]; exact hmz)] at this
          exact Option.some.inj this]
        unfold RNd.vals
        rw [hkids.2, hnl2]; rfl
      have f2 : w6.frozen? ⟨bl, m * 3 + 2, none⟩ = false := hrl.frozenAt _
      have hmzi : (m : Int) < (nz : Int) := by omega
      have hnzb : nz ≤ 100000 := by have := HSN.out; have := HSU.out; omega
      have hnlb : nl ≤ 100000 := by
        rw [← hnl2, idx_len]
        have := HKL.out
        have := HSN.out
        simp; omega
      obtain ⟨j, hj⟩ : ∃ j, m + (1 + sizesN (ks.take i)) = j := ⟨_, rfl⟩
      rw [hj]
      have hji : (j : Int) ≤ 100000 := by omega
      have hj0 : (0 : Int) ≤ (j : Int) := by omega
      have HZ := Lib.hid hz
      have HIZ := Lib.hid hiz
      have HPZ := Lib.hid hpz
      have HBZ : Hid (Below p w w6) := Lib.hid (HBP5.out.trans hbz)
      have HRK := Lib.hid hrk
      have HRL := Lib.hid hrl
      have HBL := Lib.hid hbl
      have HNZ := Lib.hid hnz
      have HN2 := Lib.hid hnl2
      have HAK := Lib.hid hak
      have HLK := Lib.hid hlk
      have HJ := Lib.hid hj
      have HKA := Lib.hid hkids.2
      clear hz hiz hpz hbz hrk hrl hbl hnz hnl2 hkids hkb hyl hzl hak hlk hj hnl HBP5 HY5 HY
      go_wp2_with fail
      refine wp_region_L (st := [18]) (S := fun Z => Z.cell? ⟨p, 1, none⟩ = some (.slice (some ⟨bl, 0, none⟩) nz cl) ∧ Z.cell? ⟨bl, m * 3 + 2, none⟩ = some (.slice a.kp nl a.kc)) (by kernel_rfl) (⟨t1, t2⟩) (fun hHeld => ?_)
      refine tkL 0 (v := ?_) rfl ?_ ?_
      rotate_left
      · (intro w hSw; obtain ⟨q0, q1⟩ := hSw; go_simp; try with_reducible rfl)
      try simp only [nrm]
      refine tkL 1 (v := ?_) rfl ?_ ?_
      rotate_left
      · (intro w hSw; obtain ⟨q0, q1⟩ := hSw; go_simp; try with_reducible rfl)
      try simp only [nrm]
      refine tkL 2 (v := ?_) rfl ?_ ?_
      rotate_left
      · (intro w hSw; obtain ⟨q0, q1⟩ := hSw; go_simp; try with_reducible rfl)
      try simp only [nrm]
      refine tkL 3 (v := ?_) rfl ?_ ?_
      rotate_left
      · (intro w hSw; obtain ⟨q0, q1⟩ := hSw; go_simp; try with_reducible rfl)
      try simp only [nrm]
      refine tkL 4 (v := ?_) rfl ?_ ?_
      rotate_left
      · (intro w hSw; obtain ⟨q0, q1⟩ := hSw; go_simp; try with_reducible rfl)
      try simp only [nrm]
      refine tkL 5 (v := ?_) rfl ?_ ?_
      rotate_left
      · (intro w hSw; obtain ⟨q0, q1⟩ := hSw; go_simp; try with_reducible rfl)
      try simp only [nrm]
      refine tkL 6 (v := ?_) rfl ?_ ?_
      rotate_left
      · (intro w hSw; obtain ⟨q0, q1⟩ := hSw; go_simp; try with_reducible rfl)
      try simp only [nrm]
      refine tkL 7 (v := ?_) rfl ?_ ?_
      rotate_left
      · (intro w hSw; obtain ⟨q0, q1⟩ := hSw; go_simp; try with_reducible rfl)
      try simp only [nrm]
      refine tkL 8 (v := ?_) rfl ?_ ?_
      rotate_left
      · (intro w hSw; obtain ⟨q0, q1⟩ := hSw; go_simp; try with_reducible rfl)
      try simp only [nrm]
      refine tkL 9 (v := ?_) rfl ?_ ?_
      rotate_left
      · (intro w hSw; obtain ⟨q0, q1⟩ := hSw; go_simp; try with_reducible rfl)
      try simp only [nrm]
      refine tkL 10 (v := ?_) rfl ?_ ?_
      rotate_left
      · (intro w hSw; obtain ⟨q0, q1⟩ := hSw; go_simp; try with_reducible rfl)
      try simp only [nrm]
      refine tkL 11 (v := ?_) rfl ?_ ?_
      rotate_left
      · (intro w hSw; obtain ⟨q0, q1⟩ := hSw; go_simp; try with_reducible rfl)
      try simp only [nrm]
      refine tkL 12 (v := ?_) rfl ?_ ?_
      rotate_left
      · (intro w hSw; obtain ⟨q0, q1⟩ := hSw; go_simp; try with_reducible rfl)
      try simp only [nrm]
      refine tkL 13 (v := ?_) rfl ?_ ?_
      rotate_left
      · (intro w hSw; obtain ⟨q0, q1⟩ := hSw; go_simp; try with_reducible rfl)
      try simp only [nrm]
      refine rdL 14 rfl (fun K hK => ?_)
      go_simp
      have hplw : p < w6.heap.size := HZ.out.plt
      have hblw : bl < w6.heap.size := (rg_own_base HRL.out bl rfl).2
      have hA : ∀ b, b < w6.heap.size → (w6.drew.alloc (.cells #[.int .i64 (j : Int)] 3)).heap[b]? = w6.heap[b]? := fun b hb => Below.heap_alloc w6.drew _ b hb
      refine hK.out _ _ (⟨cell_kept t1 (hA _ hplw), cell_kept t2 (hA _ hblw)⟩) (fun hHeld => ?_)
      clear hK K
      try simp only [nrm]
      refine rdL 15 rfl (fun K hK => ?_)
      rw [if_pos (by rfl)]
      have HLA : Hid (Ls (w6.drew.alloc (.cells #[.int .i64 (j : Int)] 3)) p s z) := Lib.hid (HZ.out.next ((drew_below w6).alloc (Nat.le_refl _) _))
      have HR : Hid ((w6.drew.alloc (.cells #[.int .i64 (j : Int)] 3)).ownsRow (p + 1) 3 1 (.slice a.kp nl a.kc) nl (ints (idx (m + 1) (ks.take i)))) := Lib.hid (HRK.out.drew.alloc _)
      refine wp_app_at _ _ 101 rfl (p + 1) 3 i2 (.int .i64 0) 1 8 Tryd.underlying101 hi2 hx0 hx1 hx2 rfl (by decide) (.slice a.kp nl a.kc) nl (ints (idx (m + 1) (ks.take i))) rfl HR.out ⟨w6.heap.size, 0, none⟩ 1 1 [.int .i64 (j : Int)] rfl rfl ?k1 ?k2 ?k3 ?k4 ?k5 ?_
      case k1 => exact cells_new w6.drew [.int .i64 (j : Int)] _
      case k2 => simp [Value.oneCell']
      case k3 => unfold maxLen; omega
      case k4 => omega
      case k5 => simp; omega
      intro v2 w9 hown hgrow hat
      obtain ⟨g12, c12, rfl, -⟩ := rg_own_succ hown
      have hak2 : a.kids = .slice a.kp nl a.kc := by unfold RNd.kids; rw [HKA.out, HN2.out]
      have HP9 : Hid (Ls (w9.setCell ⟨bl, m * 3 + 2, none⟩ (.slice (some ⟨g12, 0, none⟩) (nl + 1) c12)) p s { z with ps := z.ps.set m ⟨a.op, a.set, some ⟨g12, 0, none⟩, nl + 1, c12⟩, ks := z.ks.set m (idx (m + 1) (ks.take i) ++ [j]) }) := Lib.hid (by
        have h1 := HLA.out.pushK (k := m) (bl := bl) (cl := cl) (by rw [HNZ.out]; exact HBL.out) HAK.out HLK.out (j := j) (g' := g12) (c' := c12) (by rw [HN2.out]; exact hown) (by rw [hak2]; exact hgrow) (by
          rw [hak2]
          rcases hat with h | h
          · exact .inl h
          · have : g12 = (w6.drew.alloc (.cells #[.int .i64 (j : Int)] 3)).heap.size := Option.some.inj h
            exact .inr (Nat.le_of_eq this.symm))
        rw [HN2.out] at h1
        exact h1)
      have hrb := rg_own_base HR.out
      have hneb : ∀ b, b < w6.heap.size → b ≤ p ∨ b = bl → w9.heap[b]? = w6.heap[b]? := fun b hb hor => by
        refine (hgrow.block b (by simp; omega) (fun e => ?_)).trans (hA b hb)
        rcases hor with h | rfl
        · have := (hrb b e.symm).1; omega
        · exact own_other HRL.out HRK.out (by decide) rfl e
      have HBW9 : Hid (Below p w w9) := Lib.hid ((below_al (below_dr HBZ.out) (by simp; omega) _).grown hgrow (by simp; omega) (fun j hj => by have := (hrb j hj).1; omega))
      have hh1 : w9.cell? ⟨p, 1, none⟩ = some (.slice (some ⟨bl, 0, none⟩) nz cl) := cell_kept t1 (hneb p hplw (.inl (Nat.le_refl _)))
      have hh2 : w9.cell? ⟨bl, m * 3 + 2, none⟩ = some (.slice a.kp nl a.kc) := cell_kept t2 (hneb bl hblw (.inr rfl))
      have hh3 : w9.frozen? ⟨bl, m * 3 + 2, none⟩ = false := (World.frozen?_of_block (hneb bl hblw (.inr rfl))).trans f2
      clear hown hgrow hat hA hrb hneb HR HLA hak2
      refine hK.out _ _ (⟨hh1, hh2⟩) (fun hHeld => ?_)
      clear hK K
      try simp only [nrm]
      refine tkL 16 (v := ?_) rfl ?_ ?_
      rotate_left
      · (intro w hSw; obtain ⟨q0, q1⟩ := hSw; go_simp; try with_reducible rfl)
      try simp only [nrm]
      refine tkL 17 (v := ?_) rfl ?_ ?_
      rotate_left
      · (intro w hSw; obtain ⟨q0, q1⟩ := hSw; go_simp; try with_reducible rfl)
      try simp only [nrm]
      obtain ⟨q0, q1⟩ := hHeld
      refine wpAnyL_ready (rs := [18]) (by kernel_rfl) (by simp) ?_
      refine AllReadyL.store (o := _) rfl (by decide) (by decide) (fun K hK => ?_) AllReadyL.nil
      go_simp
      refine hK.out _ _ ?_
      clear hK K
      try simp only [nrm]
      refine wpAnyL_done (by kernel_rfl) ?_ _
      obtain ⟨W8, hW8⟩ : ∃ W8, w9.setCell ⟨bl, m * 3 + 2, none⟩ (.slice (some ⟨g12, 0, none⟩) (nl + 1) c12) = W8 := ⟨_, rfl⟩
      have HBW8 : Hid (Below p w W8) := Lib.hid (by rw [← hW8]; exact HBW9.out.setCell (by have := rg_own_base HRL.out bl rfl; show p ≤ bl; omega) _)
      rw [hW8] at HP9
      have hI8 : LayI x { z with ps := z.ps.set m ⟨a.op, a.set, some ⟨g12, 0, none⟩, nl + 1, c12⟩, ks := z.ks.set m (idx (m + 1) (ks.take i) ++ [j]) } (⟨a.op, a.set, some ⟨g12, 0, none⟩, nl + 1, c12⟩ :: (pn ++ pm)) (idx (m + 1) (ks.take (i + 1)) :: kixL (m + 1) (ks.take (i + 1))) (en ++ em) (on ++ om) (1 + sizesN (ks.take (i + 1))) := by
        have hxk : x.ks.length = m := by
          have h1 := HP9.out.lp
          have h2 := HNZ.out
          have h3 : (z.ps.set m ⟨a.op, a.set, some ⟨g12, 0, none⟩, nl + 1, c12⟩).length = (z.ks.set m (idx (m + 1) (ks.take i) ++ [j])).length := h1
          rw [List.length_set, List.length_set, HIZ.out.ps, HIZ.out.ks, HI.out.ps, HI.out.ks, List.length_append, List.length_append, List.length_append, List.length_append, List.length_cons, List.length_cons, kixL_len, kix_len, HPN.out.1, HPZ.out.1, preL_len, pre_len, HM.out] at h3
          omega
        refine ⟨?_, ?_, ?_, ?_, ?_, ?_⟩
        · show z.ps.set m _ = _
          rw [HIZ.out.ps, HI.out.ps, List.append_assoc, List.set_append_right _ _ (by rw [HM.out]; exact Nat.le_refl _), HM.out, Nat.sub_self]; rfl
        · show z.ks.set m _ = _
          rw [HIZ.out.ks, HI.out.ks, List.append_assoc, List.set_append_right _ _ (by omega), hxk, Nat.sub_self, HTK.out, idx_snoc, kixL_snoc, ← HJ.out, show m + 1 + sizesN (ks.take i) = m + (1 + sizesN (ks.take i)) from by omega]; rfl
        · show z.es = _
          rw [HIZ.out.es, HI.out.es, List.append_assoc]
        · show z.os = _
          rw [HIZ.out.os, HI.out.os, List.append_assoc]
        · rw [List.length_append, HI.out.le, HIZ.out.le, HSU.out.2]; omega
        · rw [List.length_append, HI.out.lo, HIZ.out.lo, HSU.out.2]; omega
      have HI8 := Lib.hid hI8
      have HPN8 : Hid (PartsIs (preL (ks.take (i + 1))) (pn ++ pm)) := Lib.hid (by rw [HTK.out, preL_snoc]; exact HPN.out.append HPZ.out)
      try rw [hW8]
      have HW8 := Lib.hid hW8
      clear hW8 hI8 hHeld t1 t2 f2 HIZ HPZ HI HPN HBW9 HBR q0 q1
      go_wp2_with fail
      go_roundw
      case rel => exact ⟨i + 1, _, _, _, _, _, by omega, by go_num, HP9, HI8, HA, HPN8, HBW8⟩
      case measure => simp [intOf]; omega
    · obtain rfl : i = ks.length := by omega
      have HZ : Hid (LayP w p s x (.mk op st ks) (.returned (.int .i64 (m : Int))) wr) := Lib.hid (by
        have h1 := HI.out
        have h2 := HPN.out
        rw [List.take_length] at h1 h2
        refine ⟨y, a :: pn, en, on, by rw [HM.out], HY.out, HBR.out, ?_, ?_⟩
        · rw [HM.out, HSN.out]
          unfold kix
          exact h1
        · unfold pre
          refine PartsIs.append (ts := [_]) (pn := [a]) ⟨rfl, fun i u b hu hb => ?_⟩ h2
          have hi : i = 0 := by
            have := (List.getElem?_eq_some_iff.1 hu).1
            simp at this; exact this
          subst hi
          obtain rfl := Option.some.inj hu
          obtain rfl := Option.some.inj hb
          exact ⟨HA.out.1, by rw [HA.out.2]; exact HSET.out.2⟩)
      clear HI HPN HY HBR
      go_wp2_with fail
      go_ret
      exact HZ.out
theorem rlay_any : ∀ (n : Nat) (t : RT), sizeN t ≤ n → LayC t
  | 0, .mk op st ks, h => by rw [sizeN] at h; omega
  | n + 1, .mk op st ks, h => rlay_of op st ks fun u hu => rlay_any n u (by
      have := sizes_mem hu
      rw [sizeN] at h; omega)
end Go.Proofs.YtjjejcgpeefclaaDoor
