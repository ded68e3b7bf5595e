/-
  CONTRACTS of the document's own search (scriberef10): Lay, Find.
-/
import Derived.Test.YtjjejcgpeefclaaDoorMfL2
namespace Go.Proofs.YtjjejcgpeefclaaDoor
open Go.RowKit

mutual
theorem pre_small : ∀ (t x : RT), x ∈ pre t → x.kids.length ≤ sizeN t
  | .mk op st ks, x, h => by
    unfold pre at h
    rw [sizeN]
    rcases List.mem_cons.1 h with rfl | h
    · show ks.length ≤ _
      have : ∀ l : List RT, l.length ≤ sizesN l := by
        intro l
        induction l with
        | nil => simp
        | cons t l ih => rw [sizesN, List.length_cons]; cases t; rw [sizeN]; omega
      have := this ks
      omega
    · have := preL_small ks x h; omega
theorem preL_small : ∀ (ts : List RT) (x : RT), x ∈ preL ts → x.kids.length ≤ sizesN ts
  | [], x, h => by unfold preL at h; cases h
  | t :: ts, x, h => by
    unfold preL at h
    rw [sizesN]
    rcases List.mem_append.1 h with h | h
    · have := pre_small t x h; omega
    · have := preL_small ts x h; omega
end
theorem nodup_getD {l : List Nat} (h : l.Nodup) {i j : Nat} (hi : i < l.length) (hj : j < l.length) (e : l.getD i 0 = l.getD j 0) : i = j := by
  refine (List.getElem?_inj hi h).1 ?_
  rw [List.getD_eq_getElem?_getD, List.getD_eq_getElem?_getD, List.getElem?_eq_getElem hi, List.getElem?_eq_getElem hj] at e
  rw [List.getElem?_eq_getElem hi, List.getElem?_eq_getElem hj]
  exact congrArg some e
theorem getD_get {l : List Nat} {i : Nat} (hi : i < l.length) : l[i]? = some (l.getD i 0) := by
  rw [List.getD_eq_getElem?_getD, List.getElem?_eq_getElem hi]; rfl
theorem slice_some {w : World} {B : Nat} {e : TypeId} {z n : Nat} {v : Value} {xs : List Value} (h : w.ownsRow B e z v n xs) (hn : 0 < n) : ∃ g c, v = .slice (some ⟨g, 0, none⟩) n c := by
  rcases h.2 with ⟨_, h2⟩ | ⟨g, c, _, h2, _⟩
  · omega
  · exact ⟨g, c, h2⟩
/-- Of what was laid: a table of which nothing is known. -/
theorem Ls.table {w : World} {p : Nat} {s : ByteArray} {t : RT} {y : Lv} {pn : List RNd} {en on : List Nat} (h : Ls w p s y) (hi : LayI ⟨[], [], [], [], .slice none 0 0, .slice none 0 0, .slice none 0 0⟩ y pn (kix 0 t) en on (sizeN t)) (hp : PartsIs (pre t) pn) (hs : s.size ≤ 100) (hsz : sizeN t ≤ 100000) (hshp : t.Shp) (hfine : t.Fine) :
    ∃ d : Td, d.p = p ∧ d.s = s ∧ d.T = t ∧ d.ok ∧ St w d ∧ Dy w d ∧ ∀ g, d.F g → p ≤ g := by
  have e1 : y.ps = pn := hi.ps
  have e2 : y.ks = kix 0 t := hi.ks
  have e3 : y.es = en := hi.es
  have e4 : y.os = on := hi.os
  have hN : (pre t).length = sizeN t := pre_len t
  have hpn : pn.length = sizeN t := by rw [hp.1, hN]
  have hpos : 0 < sizeN t := by cases t; rw [sizeN]; omega
  have hrL := h.rowL
  have hrE := h.rowE
  have hrO := h.rowO
  rw [e1, hpn] at hrL
  rw [e3, hi.le] at hrE
  rw [e4, hi.lo] at hrO
  obtain ⟨bl, cl, hvL⟩ := slice_some hrL hpos
  obtain ⟨be, ce, hvE⟩ := slice_some hrE hpos
  obtain ⟨bo, co, hvO⟩ := slice_some hrO hpos
  rw [hvL] at hrL
  rw [hvE] at hrE
  rw [hvO] at hrO
  have hnd : (en ++ on).Nodup := by have := h.nd; rw [e3, e4] at this; exact this
  have her : ∀ e, e ∈ en ++ on → p + 1 ≤ e ∧ w.heap[e]? = some (.cells (nils s.size) 101 (0, 0)) := by have := h.er; rw [e3, e4] at this; exact this
  have hmE : ∀ k, k < sizeN t → en.getD k 0 ∈ en ++ on := fun k hk => List.mem_append.2 (.inl (List.mem_of_getElem? (getD_get (by rw [hi.le]; exact hk))))
  have hmO : ∀ k, k < sizeN t → on.getD k 0 ∈ en ++ on := fun k hk => List.mem_append.2 (.inr (List.mem_of_getElem? (getD_get (by rw [hi.lo]; exact hk))))
  obtain ⟨d, hd⟩ : ∃ d : Td, (⟨p, bl, cl, be, ce, bo, co, fun k => en.getD k 0, fun k => on.getD k 0, s, t⟩ : Td) = d := ⟨_, rfl⟩
  have hdN : d.N = sizeN t := by rw [← hd]; exact hN
  have hF : ∀ g, d.F g → g ∈ en ++ on := by
    rintro g ⟨k, hk, hg⟩
    rw [hdN] at hk
    rw [← hd] at hg
    rcases hg with rfl | rfl
    · exact hmE k hk
    · exact hmO k hk
  have hnF : ∀ {g : Nat} {cur : Array Value} {e : TypeId}, w.heap[g]? = some (.cells cur e (0, 0)) → e ≠ 101 → ¬ d.F g := fun {g cur e} hg hne hf => by
    have := (her g (hF g hf)).2
    rw [hg] at this
    injection Option.some.inj this with _ h3 _
    exact hne h3
  obtain ⟨curL, hcL⟩ := own_type hrL (g := bl) rfl
  obtain ⟨curE, hcE⟩ := own_type hrE (g := be) rfl
  obtain ⟨curO, hcO⟩ := own_type hrO (g := bo) rfl
  have hnd2 := List.nodup_append.1 hnd
  refine ⟨d, by rw [← hd], by rw [← hd], by rw [← hd], ?_, ?_, ?_, fun g hg => by have := (her g (hF g hg)).1; omega⟩
  · refine ⟨fun j k hj hk he => ?_, fun j k hj hk he => ?_, fun j k hj hk he => ?_, by rw [← hd]; exact hs, by rw [← hd]; exact hshp, by rw [← hd]; exact hfine, fun u hu => by rw [← hd] at hu; have := pre_small t u hu; omega⟩
    · rw [hdN] at hj hk
      rw [← hd] at he
      exact nodup_getD hnd2.1 (by rw [hi.le]; exact hj) (by rw [hi.le]; exact hk) he
    · rw [hdN] at hj hk
      rw [← hd] at he
      exact nodup_getD hnd2.2.1 (by rw [hi.lo]; exact hj) (by rw [hi.lo]; exact hk) he
    · rw [hdN] at hj hk
      rw [← hd] at he
      exact hnd2.2.2 _ (List.mem_of_getElem? (getD_get (by rw [hi.le]; exact hj))) _ (List.mem_of_getElem? (getD_get (by rw [hi.lo]; exact hk))) he
  · refine ⟨?_, ?_, ?_, ?_, ?_, ?_, ?_, ?_, ?_⟩
    · have := h.tab
      rw [hvL, hvE, hvO] at this
      rw [hdN, ← hd]; exact this
    · intro k u hk
      rw [← hd] at hk
      have hk : (pre t)[k]? = some u := hk
      have hkl : k < sizeN t := by rw [← hN]; exact (List.getElem?_eq_some_iff.1 hk).1
      obtain ⟨a, ha⟩ : ∃ a, pn[k]? = some a := ⟨_, List.getElem?_eq_getElem (by rw [hpn]; exact hkl)⟩
      obtain ⟨l, hl⟩ : ∃ l, (kix 0 t)[k]? = some l := ⟨_, List.getElem?_eq_getElem (by rw [kix_len]; exact hkl)⟩
      obtain ⟨q1, q2⟩ := hp.2 k u a hk ha
      obtain ⟨q3, q4⟩ := h.kids k a l (by rw [e1]; exact ha) (by rw [e2]; exact hl)
      obtain ⟨q5, q6⟩ := kix_at (A := pre t) (m := 0) t 0 (fun i x h => by rw [Nat.zero_add]; exact h) k u l hk hl
      have ga := List.getElem?_eq_some_iff.1 ha
      have hbl : d.bl = bl := by rw [← hd]
      refine ⟨a.set, a.kp, a.kc, ?_, ?_, ?_, q2, ?_⟩
      · rw [hbl, hrL.cellAt (k * 3) (by omega), show k * 3 = k * 3 + 0 from rfl, rdRow_get pn k 0 (by rw [hpn]; exact hkl) (by omega), ga.2]
        show some (Value.int .i64 a.op) = _
        rw [q1]
      · rw [hbl, hrL.cellAt (k * 3 + 1) (by omega), rdRow_get pn k 1 (by rw [hpn]; exact hkl) (by omega), ga.2]; rfl
      · rw [hbl, hrL.cellAt (k * 3 + 2) (by omega), rdRow_get pn k 2 (by rw [hpn]; exact hkl) (by omega), ga.2]
        show some (Value.slice a.kp a.kn a.kc) = _
        rw [q4, q5]
      · intro i v hv
        obtain ⟨j, hj1, hj2⟩ := q6 i v hv
        have hil : i < l.length := (List.getElem?_eq_some_iff.1 hj1).1
        unfold RNd.kids at q3
        rw [q4] at q3
        obtain ⟨g, c, hg⟩ := slice_some q3 (by omega)
        rw [hg] at q3
        obtain ⟨cur, hcur⟩ := own_type q3 (g := g) rfl
        injection hg with hg1 _ _
        refine ⟨g, j, hg1, hnF hcur (by decide), (Array.getElem?_eq_some_iff.1 hcur).1, ?_, by rw [← hd]; exact hj2⟩
        rw [q3.cellAt i (by omega)]
        exact ints_get hj1
    · intro k hk
      rw [hdN] at hk
      rw [← hd]
      show w.cell? ⟨be, k, none⟩ = some (.slice (some ⟨en.getD k 0, 0, none⟩) (s.size + 1) (s.size + 1))
      rw [hrE.cellAt k (by omega), List.getElem?_map, getD_get (by rw [hi.le]; exact hk)]; rfl
    · intro k hk
      rw [hdN] at hk
      rw [← hd]
      show w.cell? ⟨bo, k, none⟩ = some (.slice (some ⟨on.getD k 0, 0, none⟩) (s.size + 1) (s.size + 1))
      rw [hrO.cellAt k (by omega), List.getElem?_map, getD_get (by rw [hi.lo]; exact hk)]; rfl
    · intro hf
      have := (her _ (hF _ hf)).1
      rw [← hd] at this
      have : p + 1 ≤ p := this
      omega
    · exact hnF (by rw [← hd]; exact hcL) (by decide)
    · exact hnF (by rw [← hd]; exact hcE) (by decide)
    · exact hnF (by rw [← hd]; exact hcO) (by decide)
    · rw [← hd]
      exact ⟨(Array.getElem?_eq_some_iff.1 hcL).1, (Array.getElem?_eq_some_iff.1 hcE).1, (Array.getElem?_eq_some_iff.1 hcO).1⟩
  · refine ⟨fun k u hk => ?_, fun k u hk => ?_⟩
    · have hkl := Td.klt hk
      rw [hdN] at hkl
      have := (her _ (hmE k hkl)).2
      rw [← hd]
      exact ⟨nils s.size, this, nils_size _, fun a v hv => .inl (nils_get hv)⟩
    · have hkl := Td.klt hk
      rw [hdN] at hkl
      have := (her _ (hmO k hkl)).2
      rw [← hd]
      exact ⟨nils s.size, this, nils_size _, fun a v hv => .inl (nils_get hv)⟩
/-- What Lay answers. -/
def LyP (w : World) (s : ByteArray) (t : RT) (e : Ending) (w' : World) : Prop := ∃ d : Td, e = .returned (.pointer (some ⟨d.p, 0, none⟩)) ∧ d.s = s ∧ d.T = t ∧ d.ok ∧ St w' d ∧ Dy w' d ∧ (∀ g, d.F g → w.heap.size ≤ g) ∧ Below w.heap.size w w'
set_option maxHeartbeats 4000000 in
set_option maxRecDepth 100000 in
theorem rLay_any {t : RT} {nd : RNd} {B : Nat → Prop} (s : ByteArray) (hs : s.size ≤ 100) (hsz : sizeN t ≤ 100000) (hshp : t.Shp) (hfine : t.Fine) {w : World} (htr : TreeM w B t nd) :
    Calls Tryd.prog 26 #[nd.val, .string s] w (LyP w s t) := by
  obtain ⟨W1, hW1⟩ : ∃ W1, w.alloc (.cells #[.int .i64 nd.op, .string nd.set, .slice nd.kp nd.kn nd.kc] 30) = W1 := ⟨_, rfl⟩
  have hb1 : Below w.heap.size w W1 := by rw [← hW1]; exact (Below.refl _ _).alloc (Nat.le_refl _) _
  have hz1 : W1.heap.size = w.heap.size + 1 := by rw [← hW1]; simp
  have hx1 : W1.heap[w.heap.size]? = some (.cells #[.int .i64 nd.op, .string nd.set, .slice nd.kp nd.kn nd.kc] 30 (0, 0)) := by rw [← hW1]; exact mt_heap_new _ _
  obtain ⟨W2, hW2⟩ : ∃ W2, W1.alloc (.cells #[.string s, .slice none 0 0, .slice none 0 0, .slice none 0 0] 100) = W2 := ⟨_, rfl⟩
  have hb2 : Below w.heap.size w W2 := by rw [← hW2]; exact hb1.alloc (by omega) _
  have hx2 : W2.heap[w.heap.size]? = some (.cells #[.int .i64 nd.op, .string nd.set, .slice nd.kp nd.kn nd.kc] 30 (0, 0)) := by rw [← hW2]; exact (Below.heap_alloc _ _ _ (by omega)).trans hx1
  have ht2 : W2.heap[W1.heap.size]? = some (.cells #[.string s, .slice none 0 0, .slice none 0 0, .slice none 0 0] 100 (0, 0)) := by rw [← hW2]; exact mt_heap_new _ _
  have hls : Ls W2 W1.heap.size s ⟨[], [], [], [], .slice none 0 0, .slice none 0 0, .slice none 0 0⟩ :=
    ⟨ht2, World.ownsRow_nil _ _ _ _, World.ownsRow_nil _ _ _ _, World.ownsRow_nil _ _ _ _, fun g h => by simp [Value.ownBlock] at h, fun i a l h => by simp at h, fun i j a b _ h => by simp at h, fun e h => by simp at h, by simp, rfl⟩
  have HC := Lib.hid (rlay_any _ t (Nat.le_refl _) W2 W1.heap.size s _ nd hs hls rfl rfl (by simpa using hsz) (htr.kept (fun g _ hl => hb2.block g hl) (fun g _ hl => by omega)))
  unfold RNd.val at HC ⊢
  have x0 : W2.cell? ⟨w.heap.size, 0, none⟩ = some (.int .i64 nd.op) := rg_cell hx2
  have x1 : W2.cell? ⟨w.heap.size, 1, none⟩ = some (.string nd.set) := rg_cell hx2
  have x2 : W2.cell? ⟨w.heap.size, 2, none⟩ = some (.slice nd.kp nd.kn nd.kc) := rg_cell hx2
  have HB2 := Lib.hid hb2
  have HW2 : Hid ((w.alloc (.cells #[.int .i64 nd.op, .string nd.set, .slice nd.kp nd.kn nd.kc] 30)).alloc (.cells #[.string s, .slice none 0 0, .slice none 0 0, .slice none 0 0] 100) = W2) := Lib.hid (by rw [hW1]; exact hW2)
  clear hb1 hx1 hW1 hW2 hb2 hx2 ht2 hls htr
  rw [hz1] at HC
  go_enter Tryd.func26, Tryd.ntmps26
  go_upto_region 2 with fail
  rw [HW2.out]
  clear HW2
  go_wp2_with fail
  refine HC.out.mono ?_
  rintro e w3 ⟨y, pn, en, on, rfl, hl, hb, hi, hp⟩
  obtain ⟨d, hd1, hd2, hd3, hd4, hd5, hd6, hd7⟩ := hl.table hi hp hs hsz hshp hfine
  have HZ : Hid (LyP w s t (.returned (.pointer (some ⟨w.heap.size + 1, 0, none⟩))) w3) := Lib.hid ⟨d, by rw [hd1], hd2, hd3, hd4, hd5, hd6, fun g hg => by have := hd7 g hg; omega, HB2.out.trans (hb.mono (by omega))⟩
  clear hl hb hi hp HC x0 x1 x2
  go_wp2_with fail
  go_ret
  exact HZ.out
set_option maxHeartbeats 4000000 in
set_option maxRecDepth 100000 in
theorem rFind_any {t : RT} {nd : RNd} {B : Nat → Prop} (s : ByteArray) (hs : s.size ≤ 100) (fr : Int) (hfr : -9223372036854775808 ≤ fr ∧ fr ≤ 9223372036854775807) (hsz : sizeN t ≤ 100000) (hshp : t.Shp) (hfine : t.Fine) {w : World} (htr : TreeM w B t nd) :
    Calls Tryd.prog 16 #[nd.val, .string s, .int .i64 fr] w (FdPost s t fr w) := by
  obtain ⟨W1, hW1⟩ : ∃ W1, w.alloc (.cells #[.int .i64 nd.op, .string nd.set, .slice nd.kp nd.kn nd.kc] 30) = W1 := ⟨_, rfl⟩
  have hb1 : Below w.heap.size w W1 := by rw [← hW1]; exact (Below.refl _ _).alloc (Nat.le_refl _) _
  have hx1 : W1.heap[w.heap.size]? = some (.cells #[.int .i64 nd.op, .string nd.set, .slice nd.kp nd.kn nd.kc] 30 (0, 0)) := by rw [← hW1]; exact mt_heap_new _ _
  have HC := Lib.hid (rLay_any s hs hsz hshp hfine (htr.below hb1))
  unfold RNd.val at HC ⊢
  have x0 : W1.cell? ⟨w.heap.size, 0, none⟩ = some (.int .i64 nd.op) := rg_cell hx1
  have x1 : W1.cell? ⟨w.heap.size, 1, none⟩ = some (.string nd.set) := rg_cell hx1
  have x2 : W1.cell? ⟨w.heap.size, 2, none⟩ = some (.slice nd.kp nd.kn nd.kc) := rg_cell hx1
  have HB1 := Lib.hid hb1
  have HW1 := Lib.hid hW1
  clear hb1 hx1 hW1 htr
  go_enter Tryd.func16, Tryd.ntmps16
  go_upto_region 1 with fail
  rw [HW1.out]
  clear HW1
  go_wp2_with fail
  refine HC.out.mono ?_
  rintro e w3 ⟨d, rfl, hd2, hd3, hd4, hd5, hd6, hd7, hb3⟩
  have HF := Lib.hid (rfirst_any hd4 fr hfr hd5 hd6)
  clear HC x0 x1 x2
  go_wp2_with fail
  refine HF.out.mono ?_
  rintro e w4 ⟨r, rfl, hr, hdy, hch⟩
  have HZ : Hid (FdPost s t fr w (.returned (fndV r)) w4) := Lib.hid ⟨r, rfl, by rw [hd2, hd3] at hr; exact hr, (HB1.out.trans (hb3.mono HB1.out.size)).trans (hch.below (Nat.le_trans HB1.out.size hb3.size) (fun k hk => Nat.le_trans HB1.out.size (hd7 k hk)))⟩
  clear hr hdy hch HF hd4 hd5 hd6 hd7 hb3 HB1
  cases r with
  | none =>
    simp only [fndV] at HZ ⊢
    go_wp2_with fail
    refine bodyPost_ret (v := fndV none) ?_ rfl HZ.out
    simp [results, Tryd.results16, go_sem, fndV]
  | some q =>
    obtain ⟨i, j⟩ := q
    simp only [fndV] at HZ ⊢
    go_wp2_with fail
    refine bodyPost_ret (v := fndV (some (i, j))) ?_ rfl HZ.out
    simp [results, Tryd.results16, go_sem, fndV]
/-- What is found is one. -/
theorem FndIs.one {s : ByteArray} {t : RT} {a : Nat} {r r2 : Option (Nat × Nat)} (h : FndIs s t a r) (h2 : FndIs s t a r2) : r = r2 := by
  cases r with
  | none =>
    cases r2 with
    | none => rfl
    | some q =>
      obtain ⟨i, j⟩ := q
      exact absurd h2.2.1 (h i h2.1 j)
  | some q =>
    obtain ⟨i, j⟩ := q
    cases r2 with
    | none => exact absurd h.2.1 (h2 i h.1 j)
    | some q2 =>
      obtain ⟨i2, j2⟩ := q2
      obtain ⟨a1, a2, a3, a4⟩ := h
      obtain ⟨b1, b2, b3, b4⟩ := h2
      have hi : i = i2 := by
        rcases Nat.lt_trichotomy i i2 with h | h | h
        · exact absurd a2 (b4 i a1 h j)
        · exact h
        · exact absurd b2 (a4 i2 b1 h j2)
      subst hi
      have e1 := a3 j2 b2
      have e2 := b3 j a2
      rw [show j = j2 from by omega]
theorem FdIs.one {s : ByteArray} {t : RT} {fr : Int} {r r2 : Option (Nat × Nat)} (h : FdIs s t fr r) (h2 : FdIs s t fr r2) : r = r2 := by
  unfold FdIs at h h2
  split at h
  · rename_i hc
    rw [if_pos hc] at h2
    exact h.one h2
  · rename_i hc
    rw [if_neg hc] at h2
    rw [h, h2]
end Go.Proofs.YtjjejcgpeefclaaDoor
