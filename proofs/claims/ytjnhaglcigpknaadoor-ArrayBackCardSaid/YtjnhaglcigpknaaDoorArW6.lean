/-
  CONTRACT of layer 8's Delete.
-/
import Derived.Test.YtjnhaglcigpknaaDoorArW5
namespace Go.Proofs.YtjnhaglcigpknaaDoor
open Go.RowKit Go.Maps

def delP (P : List Pr) (s : ByteArray) : List Pr := P.filter fun p => p.1.data.toList != s.data.toList
theorem delP_none {L : List En} {s : ByteArray} (h : fnd L s.data.toList = none) : delP (cont L) s = cont L := by
  unfold delP
  rw [List.filter_eq_self]
  intro p hp
  obtain ⟨e, he, rfl⟩ := List.mem_map.1 hp
  simpa using fnd_none.1 h e he
theorem delP_mid {A B : List En} {x : En} (hd : Dis (A ++ x :: B)) : delP (cont (A ++ x :: B)) x.key = cont (A ++ B) := by
  obtain ⟨hA, hB, _⟩ := hd.mid
  have key : ∀ (M : List En), (∀ y ∈ M, y.g ≠ x.g ∧ y.nm ≠ x.nm) → (cont M).filter (fun p => p.1.data.toList != x.key.data.toList) = cont M := by
    intro M hM
    rw [List.filter_eq_self]
    intro p hp
    obtain ⟨y, hy, rfl⟩ := List.mem_map.1 hp
    simpa using (hM y hy).2
  unfold delP
  simp only [cont, List.map_append, List.map_cons, List.filter_append, List.filter_cons] at key ⊢
  rw [key A hA, key B hB]
  simp
section
variable {w w' : World} {b mn : Nat} {mm : Option Nat} {F : Nat → Prop} {P : List Pr}
/-- Behind the map's delete: the entry is linked yet. -/
structure Cut (w : World) (b mn : Nat) (A : List En) (x : En) (B : List En) : Prop where
  blk : w.heap[b]? = some (.cells #[.map (some mn), ptr (hd (A ++ x :: B) none), ptr (lst (A ++ x :: B) none)] 43 (0, 0))
  lnk : Lnk w none (A ++ x :: B) none
  map : ∃ D, w.ownsMap Tryd.prog 9 ptrE mn 2000 (dat D) ∧ Srt D ∧ D.length = (A ++ B).length ∧ ∀ n, getD D n = fnd (A ++ B) n
  dis : Dis (A ++ x :: B)
  few : (A ++ x :: B).length ≤ 1000
theorem Cut.ne {A B : List En} {x y : En} (h : Cut w b mn A x B) (hy : y ∈ A ++ x :: B) : y.g ≠ b ∧ y.g ≠ mn := by
  obtain ⟨D, hm, _⟩ := h.map
  obtain ⟨_, p, q, h2⟩ := h.lnk.lt y hy
  exact ⟨cells_ne h2 h.blk (by decide), cells_ne_map h2 hm⟩
theorem Cut.bm {A B : List En} {x : En} (h : Cut w b mn A x B) : b ≠ mn := by
  obtain ⟨D, hm, _⟩ := h.map
  exact cells_ne_map h.blk hm
theorem AV.cut {A B : List En} {x : En} (h : AV w b (some mn) (A ++ x :: B)) (hs : x.key.size ≤ 1000000) (ty : TypeId) :
    ∃ w', (Builtin.delete_ #[40, 9] ty #[.map (some mn), .string x.key]).run Tryd.prog w = .ok (.tuple #[]) w' ∧ Cut w' b mn A x B ∧ w.grownBy w' (some mn) := by
  obtain ⟨D, hm, h1, h2, h3⟩ := h.map
  obtain ⟨w', hr, ho, hg⟩ := hm.drop (string_keyed Tryd.underlying9) Tryd.underlying40 (WideMaps.keyOf_string_mk Tryd.underlying9 (s := x.key) (by unfold maxLen; omega)) ty
  rw [dat_del] at ho
  have hgr := hg.grown
  have hgs : getD D x.key.data.toList = some x.g := by
    rw [h3, fnd_append, fnd_cons, if_pos rfl, fnd_none.2 (fun y hy => (h.dis.mid.1 y hy).2)]; rfl
  have hdl := del_len h1 hgs
  have hbl : w'.heap[b]? = w.heap[b]? := hgr.block b (block_lt h.blk) (fun e => by injection e with e; exact h.bmap e)
  refine ⟨w', hr, ⟨hbl.trans h.blk, h.lnk.kept fun y hy => hgr.block y.g (h.lnk.lt y hy).1 (fun e => by injection e with e; exact h.enmap hy e), ⟨delD D x.key.data.toList, ho, h1.del _, by simp at h2 ⊢; omega, fun n => ?_⟩, h.dis, h.few⟩, hgr⟩
  rw [fnd_del h.dis]
  by_cases hq : n = x.nm
  · rw [if_pos hq, hq]; exact getD_del_same D _
  · rw [if_neg hq, getD_del_other D h1 hq, h3]
theorem Cut.fin {A B : List En} {x : En} {w3 : World} (h : Cut w b mn A x B) (hb : w3.heap[b]? = some (.cells #[.map (some mn), ptr (hd (A ++ B) none), ptr (lst (A ++ B) none)] 43 (0, 0)))
    (hA : Lnk w3 none A (hd B none)) (hB : Lnk w3 (lst A none) B none) (hm : w3.heap[mn]? = w.heap[mn]?) : AV w3 b (some mn) (A ++ B) := by
  obtain ⟨D, h0, h1, h2, h3⟩ := h.map
  have hd := h.dis.mid.2.2
  exact ⟨hb, (Lnk_append _ _ _ _).2 ⟨hA, hB⟩, ⟨D, ownsMap_of_block h0 hm, h1, h2, h3⟩, hd.1, hd.2, by have := h.few; simp at this ⊢; omega⟩
theorem Cut.c00 {x : En} (h : Cut w b mn [] x []) : AV ((w.setCell ⟨b, 1, none⟩ (ptr (hd ([] : List En) none))).setCell ⟨b, 2, none⟩ (ptr (lst ([] : List En) none))) b (some mn) ([] ++ []) := by
  have hdis := h.dis
  have hbm := h.bm
  obtain ⟨l1, l2, l3⟩ := (Lnk_append [] (x :: []) none none).1 h.lnk
  refine h.fin ?_ ?_ ?_ ?_
  · simpa [hd, lst] using setCell_block (i := 2) (setCell_block (i := 1) h.blk (ptr none)) (ptr none)
  · trivial
  · trivial
  · rw [Below.heap_setCell _ _ _ mn (Ne.symm hbm), Below.heap_setCell _ _ _ mn (Ne.symm hbm)]
theorem Cut.c01 {B : List En} {z : En} {x : En} (h : Cut w b mn [] x (z :: B)) : AV ((w.setCell ⟨b, 1, none⟩ (ptr (hd (z :: B) none))).setCell ⟨z.g, 4, none⟩ (ptr (lst ([] : List En) none))) b (some mn) ([] ++ (z :: B)) := by
  have hdis := h.dis
  have hz := h.ne (y := z) (by simp)
  have hbm := h.bm
  obtain ⟨l1, l2, l3⟩ := (Lnk_append [] (x :: (z :: B)) none none).1 h.lnk
  have hzB : ∀ u ∈ B, u.g ≠ z.g := by
    have h1 : Dis (([] ++ [x]) ++ z :: B) := by simpa using hdis
    exact fun u hu => (h1.mid.2.1 u hu).1
  have hBb : ∀ u ∈ z :: B, u.g ≠ b := fun u hu => (h.ne (y := u) (List.mem_append_right _ (List.mem_cons_of_mem _ hu))).1
  refine h.fin ?_ ?_ ?_ ?_
  · rw [Below.heap_setCell _ _ _ b (Ne.symm hz.1)]
    have := setCell_block (i := 1) h.blk (ptr (some z.g))
    simpa [hd, lst] using this
  · trivial
  · have l4 : Lnk (w.setCell ⟨b, 1, none⟩ (ptr (hd (z :: B) none))) (some x.g) (z :: B) none := l3.kept fun u hu => Below.heap_setCell _ _ _ u.g (hBb u hu)
    exact l4.setHead hzB _
  · rw [Below.heap_setCell _ _ _ mn (Ne.symm hz.2), Below.heap_setCell _ _ _ mn (Ne.symm hbm)]
theorem Cut.c10 {A : List En} {y : En} {x : En} (h : Cut w b mn (A ++ [y]) x []) : AV ((w.setCell ⟨y.g, 5, none⟩ (ptr (hd ([] : List En) none))).setCell ⟨b, 2, none⟩ (ptr (lst (A ++ [y]) none))) b (some mn) ((A ++ [y]) ++ []) := by
  have hdis := h.dis
  have hy := h.ne (y := y) (by simp)
  have hbm := h.bm
  obtain ⟨l1, l2, l3⟩ := (Lnk_append (A ++ [y]) (x :: []) none none).1 h.lnk
  have hyA : ∀ u ∈ A, u.g ≠ y.g := by
    have h1 : Dis (A ++ y :: (x :: [])) := by simpa using hdis
    exact fun u hu => (h1.mid.1 u hu).1
  have hAb : ∀ u ∈ (A ++ [y]), u.g ≠ b := fun u hu => (h.ne (y := u) (List.mem_append_left _ hu)).1
  refine h.fin ?_ ?_ ?_ ?_
  · have h1 : (w.setCell ⟨y.g, 5, none⟩ (ptr (hd ([] : List En) none))).heap[b]? = _ := (Below.heap_setCell _ _ _ b (Ne.symm hy.1)).trans h.blk
    have := setCell_block (i := 2) h1 (ptr (lst (A ++ [y]) none))
    obtain ⟨g, hg1, hg2⟩ := hd_snoc A y
    rw [hd_append, hg2] at this
    rw [List.append_nil, hg1]
    simpa using this
  · have l4 := l1.setEnd hyA (hd ([] : List En) none)
    exact l4.kept fun u hu => Below.heap_setCell _ _ _ u.g (hAb u hu)
  · trivial
  · rw [Below.heap_setCell _ _ _ mn (Ne.symm hbm), Below.heap_setCell _ _ _ mn (Ne.symm hy.2)]
theorem Cut.c11 {A : List En} {y : En} {B : List En} {z : En} {x : En} (h : Cut w b mn (A ++ [y]) x (z :: B)) : AV ((w.setCell ⟨y.g, 5, none⟩ (ptr (hd (z :: B) none))).setCell ⟨z.g, 4, none⟩ (ptr (lst (A ++ [y]) none))) b (some mn) ((A ++ [y]) ++ (z :: B)) := by
  have hdis := h.dis
  have hy := h.ne (y := y) (by simp)
  have hz := h.ne (y := z) (by simp)
  have hbm := h.bm
  obtain ⟨l1, l2, l3⟩ := (Lnk_append (A ++ [y]) (x :: (z :: B)) none none).1 h.lnk
  have hyA : ∀ u ∈ A, u.g ≠ y.g := by
    have h1 : Dis (A ++ y :: (x :: (z :: B))) := by simpa using hdis
    exact fun u hu => (h1.mid.1 u hu).1
  have hzB : ∀ u ∈ B, u.g ≠ z.g := by
    have h1 : Dis (((A ++ [y]) ++ [x]) ++ z :: B) := by simpa using hdis
    exact fun u hu => (h1.mid.2.1 u hu).1
  have hyz : y.g ≠ z.g := by
    have h1 : Dis (((A ++ [y]) ++ [x]) ++ z :: B) := by simpa using hdis
    exact (h1.mid.1 y (by simp)).1
  have hAz : ∀ u ∈ A ++ [y], u.g ≠ z.g := by
    have h1 : Dis (((A ++ [y]) ++ [x]) ++ z :: B) := by simpa using hdis
    exact fun u hu => (h1.mid.1 u (List.mem_append_left _ hu)).1
  have hBy : ∀ u ∈ z :: B, u.g ≠ y.g := by
    have h1 : Dis (A ++ y :: (x :: (z :: B))) := by simpa using hdis
    exact fun u hu => (h1.mid.2.1 u (List.mem_cons_of_mem _ hu)).1
  have hAb : ∀ u ∈ (A ++ [y]), u.g ≠ b := fun u hu => (h.ne (y := u) (List.mem_append_left _ hu)).1
  have hBb : ∀ u ∈ z :: B, u.g ≠ b := fun u hu => (h.ne (y := u) (List.mem_append_right _ (List.mem_cons_of_mem _ hu))).1
  refine h.fin ?_ ?_ ?_ ?_
  · rw [Below.heap_setCell _ _ _ b (Ne.symm hz.1), Below.heap_setCell _ _ _ b (Ne.symm hy.1), h.blk]
    obtain ⟨g, hg1, hg2⟩ := hd_snoc A y
    rw [hd_append (A ++ [y]) (x :: z :: B), hd_append (A ++ [y]) (z :: B), hg2, hg2, lst_append (A ++ [y]) (x :: z :: B), lst_append (A ++ [y]) (z :: B)]
    rfl
  · have l4 := l1.setEnd hyA (hd (z :: B) none)
    exact l4.kept fun u hu => Below.heap_setCell _ _ _ u.g (hAz u hu)
  · have l4 : Lnk (w.setCell ⟨y.g, 5, none⟩ (ptr (hd (z :: B) none))) (some x.g) (z :: B) none := l3.kept fun u hu => Below.heap_setCell _ _ _ u.g (hBy u hu)
    exact l4.setHead hzB _
  · rw [Below.heap_setCell _ _ _ mn (Ne.symm hz.2), Below.heap_setCell _ _ _ mn (Ne.symm hy.2)]
theorem mem_skip {A B : List En} {x u : En} (h : u ∈ A ++ B) : u ∈ A ++ x :: B := by
  rcases List.mem_append.1 h with h | h
  · exact List.mem_append_left _ h
  · exact List.mem_append_right _ (List.mem_cons_of_mem _ h)
theorem AV.own_sub {L : List En} {w0 w3 : World} (h : AV w3 b (some mn) L) (hb : F b) (hm : F mn) (hu : ∀ u ∈ L, F u.g) (hO : Oth F w0 w3) : AF F w3 b (cont L) ∧ Oth F w0 w3 :=
  ⟨⟨some mn, L, h, rfl, fun k hk => by
    rcases hk with rfl | hk | ⟨e, he, rfl⟩
    · exact hb
    · injection hk with hk; subst hk; exact hm
    · exact hu e he⟩, hO⟩
def delR (F : Nat → Prop) (w : World) (b : Nat) (P : List Pr) (w' : World) : Prop := AF F w' b P ∧ Oth F w w'
theorem delR.like {w1 w2 : World} (h : delR F w b P w1) (e1 : w2.heap = w1.heap) (e2 : w2.os = w1.os) (e3 : w2.tape = w1.tape) (e4 : w2.output = w1.output) : delR F w b P w2 := by
  obtain ⟨⟨mm, L, h1, h2, h3⟩, h4⟩ := h
  exact ⟨⟨mm, L, h1.kept (fun k _ => by rw [e1]), h2, h3⟩, ⟨e2.trans h4.os, e3.trans h4.tape, e4.trans h4.output, by rw [e1]; exact h4.size, fun k hk hn => by rw [e1]; exact h4.block k hk hn⟩⟩
set_option maxHeartbeats 4000000 in
set_option maxRecDepth 100000 in
theorem adel_any (h : AF F w b P) (s : ByteArray) (hs : s.size ≤ 1000000) :
    Calls Tryd.prog 13 #[.pointer (some ⟨b, 0, none⟩), .string s] w fun e w' => e = .returned (.tuple #[]) ∧ delR F w b (delP P s) w' := by
  obtain ⟨mm, L, hA, rfl, hF⟩ := h
  have hc0 : w.cell? ⟨b, 0, none⟩ = some (.map mm) := block_cell hA.blk
  have hlk := hA.look s hs
  cases hf : fnd L s.data.toList with
  | none =>
    rw [hf, ptr_none] at hlk
    rw [delP_none hf]
    have HE : Hid (delR F w b (cont L) w) := Lib.hid ⟨⟨mm, L, hA, rfl, hF⟩, Oth.refl _ _⟩
    clear hA hF hf
    go_enter Tryd.func13, Tryd.ntmps13
    go_wp2
    refine bodyPost_ret (v := .tuple #[]) ?_ rfl ⟨rfl, HE.out⟩
    simp [results, Tryd.results13]
  | some g =>
    rw [hf, ptr_some] at hlk
    obtain ⟨A, x, B, rfl, hx1, rfl, hx2⟩ := fnd_some hf
    have hk : x.key = s := WideShapes.bytes_inj hx1
    subst hk
    rw [delP_mid hA.dis]
    cases mm with
    | none => have := hA.map; simp at this
    | some mn =>
      obtain ⟨w1, hr, hcut, hgr⟩ := hA.cut hs 0
      have hO1 : Oth F w w1 := (Oth.refl F w).grown hgr (fun k hk => by injection hk with hk; subst hk; exact .inl (hF _ (.inr (.inl rfl))))
      have hFx : F x.g := hF _ (.inr (.inr ⟨x, by simp, rfl⟩))
      have hFb : F b := hF _ (.inl rfl)
      have hFm : F mn := hF _ (.inr (.inl rfl))
      have HOF := Lib.hid fun (u : En) (hu : u ∈ A ++ x :: B) => hF u.g (.inr (.inr ⟨u, hu, rfl⟩))
      obtain ⟨l1, l2, l3⟩ := (Lnk_append A (x :: B) none none).1 hcut.lnk
      have hxb := (hcut.ne (y := x) (by simp)).1
      have c4 : w1.cell? ⟨x.g, 4, none⟩ = some (ptr (lst A none)) := block_cell l2
      have c5 : w1.cell? ⟨x.g, 5, none⟩ = some (ptr (hd B none)) := block_cell l2
      have b1 : w1.cell? ⟨b, 1, none⟩ = some (ptr (hd (A ++ x :: B) none)) := block_cell hcut.blk
      have b2 : w1.cell? ⟨b, 2, none⟩ = some (ptr (lst (A ++ x :: B) none)) := block_cell hcut.blk
      have fb1 : w1.frozen? ⟨b, 1, none⟩ = false := block_frozen hcut.blk
      have fb2 : w1.frozen? ⟨b, 2, none⟩ = false := block_frozen hcut.blk
      obtain ⟨bx1, hbx1⟩ := ptr_is (hd (A ++ x :: B) none)
      obtain ⟨bx2, hbx2⟩ := ptr_is (lst (A ++ x :: B) none)
      rw [hbx1] at b1
      rw [hbx2] at b2
      have HC := Lib.hid hcut
      have HO := Lib.hid hO1
      have HOW := Lib.hid hF
      clear hcut hO1 hA hgr hF hf hbx1 hbx2
      rcases List.eq_nil_or_concat A with hA | ⟨A', y, hA⟩
      · subst hA
        rw [show ptr (lst ([] : List En) none) = .pointer none from rfl] at c4
        cases B with
        | nil =>
          rw [show ptr (hd ([] : List En) none) = .pointer none from rfl] at c5
          have hc := HC.out.c00
          have HE : Hid (delR F w b (cont (([] : List En) ++ ([] : List En))) ((w1.setCell ⟨b, 1, none⟩ (.pointer none)).setCell ⟨b, 2, none⟩ (.pointer none))) := Lib.hid (AV.own_sub (F := F) (L := ([] : List En) ++ ([] : List En)) hc hFb hFm (fun u hu => HOF.out u (mem_skip hu)) ((HO.out.setCell (p := ⟨b, 1, none⟩) (.inl hFb) _).setCell (p := ⟨b, 2, none⟩) (.inl hFb) _))
          clear hc l1 l2 l3 HC HO HOW HOF hFx hFb hFm
          go_enter Tryd.func13, Tryd.ntmps13
          go_wp2_with fail
          go_end0
          exact ⟨rfl, HE.out.like rfl rfl rfl rfl⟩
        | cons z B =>
          rw [show ptr (hd (z :: B) none) = .pointer (some ⟨z.g, 0, none⟩) from rfl] at c5
          obtain ⟨zq, hzq⟩ := ptr_is (some x.g)
          have z4 : w1.cell? ⟨z.g, 4, none⟩ = some (ptr (some x.g)) := block_cell l3.1
          rw [ptr_some] at z4
          have fz4 : w1.frozen? ⟨z.g, 4, none⟩ = false := block_frozen l3.1
          have hzb := (HC.out.ne (y := z) (by simp)).1
          have hzx : z.g ≠ x.g := (HC.out.dis.mid.2.1 z (by simp)).1
          clear hzq
          have hc := HC.out.c01
          have HE : Hid (delR F w b (cont (([] : List En) ++ (z :: B))) ((w1.setCell ⟨b, 1, none⟩ (.pointer (some ⟨z.g, 0, none⟩))).setCell ⟨z.g, 4, none⟩ (.pointer none))) := Lib.hid (AV.own_sub (F := F) (L := ([] : List En) ++ (z :: B)) hc hFb hFm (fun u hu => HOF.out u (mem_skip hu)) ((HO.out.setCell (p := ⟨b, 1, none⟩) (.inl hFb) _).setCell (p := ⟨z.g, 4, none⟩) (.inl (HOF.out z (by simp))) _))
          clear hc l1 l2 l3 HC HO HOW HOF hFx hFb hFm
          go_enter Tryd.func13, Tryd.ntmps13
          go_wp2_with fail
          go_region
          go_wp2_with fail
          go_end0
          exact ⟨rfl, HE.out.like rfl rfl rfl rfl⟩
      · rw [List.concat_eq_append] at hA
        subst hA
        rw [lst_snoc, ptr_some] at c4
        obtain ⟨_, l1e⟩ := (Lnk_append A' [y] none (hd (x :: B) none)).1 l1
        obtain ⟨yq, hyq⟩ := ptr_is (hd ([] : List En) (hd (x :: B) none))
        have y5 : w1.cell? ⟨y.g, 5, none⟩ = some (ptr (hd ([] : List En) (hd (x :: B) none))) := block_cell l1e.1
        rw [hyq] at y5
        have fy5 : w1.frozen? ⟨y.g, 5, none⟩ = false := block_frozen l1e.1
        have hyb := (HC.out.ne (y := y) (by simp)).1
        have hyx : y.g ≠ x.g := (HC.out.dis.mid.1 y (by simp)).1
        clear hyq l1e
        cases B with
        | nil =>
          rw [show ptr (hd ([] : List En) none) = .pointer none from rfl] at c5
          have hc := HC.out.c10
          rw [lst_snoc, ptr_some] at hc
          have HE : Hid (delR F w b (cont ((A' ++ [y]) ++ ([] : List En))) ((w1.setCell ⟨y.g, 5, none⟩ (.pointer none)).setCell ⟨b, 2, none⟩ (.pointer (some ⟨y.g, 0, none⟩)))) := Lib.hid (AV.own_sub (F := F) (L := (A' ++ [y]) ++ ([] : List En)) hc hFb hFm (fun u hu => HOF.out u (mem_skip hu)) ((HO.out.setCell (p := ⟨y.g, 5, none⟩) (.inl (HOF.out y (by simp))) _).setCell (p := ⟨b, 2, none⟩) (.inl hFb) _))
          clear hc l1 l2 l3 HC HO HOW HOF hFx hFb hFm
          go_enter Tryd.func13, Tryd.ntmps13
          go_wp2_with fail
          go_region
          go_wp2_with fail
          go_end0
          exact ⟨rfl, HE.out.like rfl rfl rfl rfl⟩
        | cons z B =>
          rw [show ptr (hd (z :: B) none) = .pointer (some ⟨z.g, 0, none⟩) from rfl] at c5
          obtain ⟨zq, hzq⟩ := ptr_is (some x.g)
          have z4 : w1.cell? ⟨z.g, 4, none⟩ = some (ptr (some x.g)) := block_cell l3.1
          rw [ptr_some] at z4
          have fz4 : w1.frozen? ⟨z.g, 4, none⟩ = false := block_frozen l3.1
          have hzb := (HC.out.ne (y := z) (by simp)).1
          have hzx : z.g ≠ x.g := (HC.out.dis.mid.2.1 z (by simp)).1
          clear hzq
          have hyz : y.g ≠ z.g := by
            have h1 : Dis ((A' ++ [y] ++ [x]) ++ z :: B) := by simpa using HC.out.dis
            exact (h1.mid.1 y (by simp)).1
          have hc := HC.out.c11
          rw [lst_snoc, ptr_some] at hc
          have HE : Hid (delR F w b (cont ((A' ++ [y]) ++ (z :: B))) ((w1.setCell ⟨y.g, 5, none⟩ (.pointer (some ⟨z.g, 0, none⟩))).setCell ⟨z.g, 4, none⟩ (.pointer (some ⟨y.g, 0, none⟩)))) := Lib.hid (AV.own_sub (F := F) (L := (A' ++ [y]) ++ (z :: B)) hc hFb hFm (fun u hu => HOF.out u (mem_skip hu)) ((HO.out.setCell (p := ⟨y.g, 5, none⟩) (.inl (HOF.out y (by simp))) _).setCell (p := ⟨z.g, 4, none⟩) (.inl (HOF.out z (by simp))) _))
          clear hc l1 l2 l3 HC HO HOW HOF hFx hFb hFm
          go_enter Tryd.func13, Tryd.ntmps13
          go_wp2_with fail
          go_region
          go_wp2_with fail
          go_region
          go_wp2_with fail
          go_end0
          exact ⟨rfl, HE.out.like rfl rfl rfl rfl⟩
end
end Go.Proofs.YtjnhaglcigpknaaDoor
