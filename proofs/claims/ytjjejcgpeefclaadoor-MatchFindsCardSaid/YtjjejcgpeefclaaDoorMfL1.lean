/-
  THE DOCUMENT's TABLE of layer 10 as it is laid: its rows, and what each append does to them.
-/
import Derived.Test.YtjjejcgpeefclaaDoorMfR
import Derived.Test.YtjjejcgpeefclaaDoorMfM
import Derived.Lib.SliceRun
namespace Go.Proofs.YtjjejcgpeefclaaDoor
open Go.RowKit

theorem Shp.kids (t : RT) (h : t.Shp) : ∀ u ∈ t.kids, u.Shp := by
  obtain ⟨op, st, ks⟩ := t
  unfold RT.Shp at h
  exact h.2.2.mem
theorem Fine.kids (t : RT) (h : t.Fine) : ∀ u ∈ t.kids, u.Fine := by
  obtain ⟨op, st, ks⟩ := t
  unfold RT.Fine at h
  exact h.2.2.2.mem
theorem sizes_mem : ∀ {ks : List RT} {u : RT}, u ∈ ks → sizeN u ≤ sizesN ks
  | t :: ks, u, h => by
    rw [sizesN]
    rcases List.mem_cons.1 h with rfl | h
    · omega
    · have := sizes_mem h; omega
theorem rends_all {d : Td} (hd : d.ok) : ∀ (m : Nat) (t : RT) (k : Nat), sizeN t ≤ m → (pre d.T)[k]? = some t → EndsC d k t
  | 0, .mk op st ks, k, hm, _ => by rw [sizeN] at hm; omega
  | m + 1, .mk op st ks, k, hm, hk => by
    have hsh := pre_all (P := RT.Shp) Shp.kids d.T hd.shp _ (List.mem_of_getElem? hk)
    have hfi := pre_all (P := RT.Fine) Fine.kids d.T hd.fine _ (List.mem_of_getElem? hk)
    have IH : ∀ u ∈ (RT.mk op st ks).kids, ∀ j, (pre d.T)[j]? = some u → EndsC d j u := fun u hu j hj =>
      rends_all hd m u j (by
        have h1 := sizes_mem (ks := ks) hu
        rw [sizeN] at hm; omega) hj
    unfold RT.Shp at hsh
    unfold RT.Fine at hfi
    have hop := hfi.1
    have LC : ∀ u, ks = [u] → LoopC d k (.mk op st ks) := fun u hu w a ha hs hy => rloop_of hd hk (u := u) hu (fun j hj => IH u (by show u ∈ ks; rw [hu]; simp) j hj) (d.n - a + 1) w a (by omega) ha hs hy
    refine rends_of hd hk ?_
    match op, hop with
    | 0, _ => exact reck_0 hd hk rfl (hsh.1 rfl)
    | 1, _ => exact reck_1 hd hk rfl
    | 2, _ => exact reck_2 hd hk rfl IH
    | 3, _ => exact reck_3 hd hk rfl IH
    | 4, _ =>
      obtain ⟨u, rfl⟩ := hsh.2.1 (.inl rfl)
      exact reck_4 hd hk rfl (LC u rfl) rfl
    | 5, _ =>
      obtain ⟨u, rfl⟩ := hsh.2.1 (.inr (.inl rfl))
      exact reck_5 hd hk rfl (LC u rfl) rfl (fun j hj => IH u (by show u ∈ [u]; simp) j hj)
    | 6, _ =>
      obtain ⟨u, rfl⟩ := hsh.2.1 (.inr (.inr rfl))
      exact reck_6 hd hk rfl rfl (fun j hj => IH u (by show u ∈ [u]; simp) j hj)
    | 7, _ => exact reck_7 hd hk rfl
    | 8, _ => exact reck_8 hd hk rfl
    | n + 9, h => omega
theorem pre_zero (t : RT) : (pre t)[0]? = some t := by cases t; unfold pre; rfl
theorem rends_top {d : Td} (hd : d.ok) : EndsC d 0 d.T := rends_all hd _ d.T 0 (Nat.le_refl _) (pre_zero _)
theorem ups_last {P : Nat → Prop} : ∀ n, 0 < (ups P n).length → ∃ j, (ups P n)[(ups P n).length - 1]? = some j ∧ j < n ∧ P j ∧ ∀ j', j' < n → P j' → j' ≤ j
  | 0, h => by simp [ups] at h
  | n + 1, h => by
    by_cases hn : P n
    · refine ⟨n, ?_, by omega, hn, fun j' h1 _ => by omega⟩
      rw [ups_on hn]; simp
    · rw [ups_off hn] at h ⊢
      obtain ⟨j, h1, h2, h3, h4⟩ := ups_last n h
      exact ⟨j, h1, by omega, h3, fun j' h5 h6 => h4 j' (by
        by_cases e : j' = n
        · subst e; exact absurd h6 hn
        · omega) h6⟩
/-- What first answers. -/
def FstP (d : Td) (fr : Int) (w : World) (e : Ending) (w' : World) : Prop := ∃ r, e = .returned (fndV r) ∧ FdIs d.s d.T fr r ∧ Dy w' d ∧ Chg d.F w w'
set_option maxHeartbeats 4000000 in
set_option maxRecDepth 100000 in
theorem rfirst_any {d : Td} (hd : d.ok) (fr : Int) (hfr : -9223372036854775808 ≤ fr ∧ fr ≤ 9223372036854775807) {w : World} (hs : St w d) (hy : Dy w d) :
    Calls Tryd.prog 25 #[.pointer (some ⟨d.p, 0, none⟩), .int .i64 fr] w (FstP d fr w) := by
  have HS := Lib.hid hs
  have HY := Lib.hid hy
  have HTOP := Lib.hid (rends_top hd)
  have p0 : w.cell? ⟨d.p, 0, none⟩ = some (.string d.s) := rg_cell hs.tab
  have hn := hd.n
  have hdn : d.n = d.s.size := rfl
  have hni : (d.s.size : Int) ≤ 100 := by omega
  clear hs hy hd
  by_cases h0 : fr < 0
  · have HF : Hid (FstP d fr w (.returned (fndV none)) w) := Lib.hid ⟨none, rfl, by unfold FdIs; rw [if_neg (by omega)], HY.out, Chg.refl _ _⟩
    clear hfr hdn
    go_enter Tryd.func25, Tryd.ntmps25
    go_wp2_with fail
    refine bodyPost_ret (v := fndV none) ?_ rfl HF.out
    simp [results, Tryd.results25, go_sem, fndV]
  · have hfr0 : 0 ≤ fr := by omega
    go_enter Tryd.func25, Tryd.ntmps25
    go_wp2_with fail
    go_loopw [7] (fun iv wr => ∃ z : Int, iv = .int .i64 z ∧ fr ≤ z ∧ z ≤ 9223372036854775807 ∧ Hid (z = fr ∨ z ≤ (d.n : Int) + 1) ∧ Hid (∀ i' : Nat, fr ≤ (i' : Int) → (i' : Int) < z → ∀ j, ¬ Met d.s d.T i' j) ∧ Hid (Dy wr d ∧ Chg d.F w wr))
      (fun iv _ => ((d.n : Int) + 1 - (intOf iv)).toNat)
    case atStart => exact ⟨fr, rfl, Int.le_refl _, hfr.2, Lib.hid (.inl rfl), Lib.hid fun i h1 h2 => by omega, Lib.hid ⟨HY.out, Chg.refl _ _⟩⟩
    case round =>
      obtain ⟨z, rfl, hz, hz2, HZ, HNO, HD⟩ := hrel
      have y0 : wr.cell? ⟨d.p, 0, none⟩ = some (.string d.s) := cell_kept p0 (HD.out.2.block _ HS.out.plt HS.out.fp)
      by_cases hzn : z ≤ (d.s.size : Int)
      · obtain ⟨i, rfl⟩ : ∃ i : Nat, z = (i : Int) := ⟨z.toNat, by omega⟩
        have hin : i ≤ d.n := by omega
        have HE := Lib.hid (HTOP.out wr i hin (HS.out.chg HD.out.2) HD.out.1)
        have HIN := Lib.hid hin
        clear hin hdn
        go_wp2_with fail
        refine HE.out.mono ?_
        rintro e w3 ⟨g, c, rfl, hob⟩
        have HO := Lib.hid hob
        clear hob HE
        obtain ⟨L, hL⟩ : ∃ L, lstE d d.T i = L := ⟨_, rfl⟩
        have HL := Lib.hid hL
        rw [hL] at HO ⊢
        have hll : L.length ≤ d.n + 1 := by rw [← hL]; exact ups_lenle _ _
        clear hL
        obtain ⟨m, hm⟩ : ∃ m, L.length = m := ⟨_, rfl⟩
        rw [hm] at hll ⊢
        have HM := Lib.hid hm
        clear hm
        by_cases hm0 : 0 < m
        · obtain ⟨j, hj1, hj2, hj3, hj4⟩ := ups_last (P := Lead (gS d.s) d.n d.T i) (d.n + 1) (by
            rw [show ups (Lead (gS d.s) d.n d.T i) (d.n + 1) = L from HL.out, HM.out]; exact hm0)
          rw [show ups (Lead (gS d.s) d.n d.T i) (d.n + 1) = L from HL.out, HM.out] at hj1
          have q1 : w3.cell? ⟨g, m - 1, none⟩ = some (.int .i64 (j : Int)) := HO.out.row.cell hj1
          obtain ⟨m', rfl⟩ : ∃ m', m = m' + 1 := ⟨m - 1, by omega⟩
          rw [Nat.add_sub_cancel] at q1
          have HF : Hid (FstP d fr w (.returned (fndV (some (i, j)))) w3) := Lib.hid ⟨some (i, j), rfl, by
            unfold FdIs
            rw [if_pos ⟨hfr0, Int.le_trans hz hzn⟩]
            refine ⟨by omega, ⟨by show j ≤ d.n; omega, hj3⟩, fun j' hj' => hj4 j' (by have : j' ≤ d.n := hj'.1; omega) hj'.2, fun i' h1 h2 j' => HNO.out i' (by omega) (by omega) j'⟩, HO.out.dy, HD.out.2.then HO.out.ch⟩
          have w1 : IntKind.i64.wrap (m' : Int) = (m' : Int) := by rw [IntKind.wrap_i64]; omega
          clear hj1 hj2 hj3 hj4 HNO HD hfr
          go_wp2_with fail
          go_quiet (fail)
          go_wp2_with fail
          refine bodyPost_ret (v := fndV (some (i, j))) ?_ rfl ?_
          · simp [results, Tryd.results25, go_sem, fndV]
          · obtain ⟨r, h1, h2, h3, h4⟩ := HF.out
            exact ⟨r, h1, h2, h3.next (below_dn (Below.refl _ _) _), h4.then (Chg.of_below (below_dn (Below.refl _ _) _) (Nat.le_refl _))⟩
        · obtain rfl : m = 0 := by omega
          have HNO2 : Hid (∀ j, ¬ Met d.s d.T i j) := Lib.hid fun j hj => by
            obtain ⟨x, hx⟩ := ups_at_mem.2 (show j < d.n + 1 ∧ Lead (gS d.s) d.n d.T i j from ⟨by have : j ≤ d.n := hj.1; omega, hj.2⟩)
            rw [show ups (Lead (gS d.s) d.n d.T i) (d.n + 1) = L from HL.out] at hx
            have := (List.getElem?_eq_some_iff.1 hx).1
            have := HM.out
            omega
          have HD3 : Hid (Dy w3 d ∧ Chg d.F w w3) := Lib.hid ⟨HO.out.dy, HD.out.2.then HO.out.ch⟩
          clear HO HD hm0
          go_wp2_with fail
          go_roundw
          case rel => exact ⟨(i : Int) + 1, rfl, by omega, by omega, Lib.hid (.inr (by have := HIN.out; omega)), Lib.hid fun i' h1 h2 j => by
            by_cases e : i' = i
            · subst e; exact HNO2.out j
            · exact HNO.out i' h1 (by omega) j, HD3⟩
          case measure => have := HIN.out; simp [intOf]; omega
      · have HF : Hid (FstP d fr w (.returned (fndV none)) wr) := Lib.hid ⟨none, rfl, by
          unfold FdIs
          split
          · rename_i h
            show ∀ i, fr.toNat ≤ i → ∀ j, ¬ Met d.s d.T i j
            intro i hi j hm
            by_cases e : (i : Int) < z
            · exact HNO.out i (by omega) e j hm
            · have := hm.le2; omega
          · rfl, HD.out.1, HD.out.2⟩
        clear HNO HD hfr hdn
        go_wp2_with fail
        refine bodyPost_ret (v := fndV none) ?_ rfl HF.out
        simp [results, Tryd.results25, go_sem, fndV]
end Go.Proofs.YtjjejcgpeefclaaDoor

namespace Go.Proofs.YtjjejcgpeefclaaDoor
open Go.RowKit

/-- `append` at an operation, with where the new row lies. -/
theorem wp_app_at {P : Program} {w : World} {o : Oper} {a : Act} {K : Act → World → Prop} {Q : Exit → Act → World → Prop} (s x : Operand) (t : TypeId)
    (ho : o.op = .call { callee := .builtin .append, args := #[s, x], argTypes := #[t, t] })
    (base : Nat) (e : TypeId) (i : TypeInfo) (z : Value) (size bytes : Nat) (ht : P.underlying t = some (.slice e)) (hi : P.info? e = some i) (hz : i.zero = some z)
    (hsize : i.size = size) (hby : i.bytes = bytes) (hzs : z.cells.size = size) (hsz : 0 < size)
    (v : Value) (n : Nat) (xs : List Value) (hs : a.eval s = v) (hown : w.ownsRow base e size v n xs)
    (ad : Addr) (m c : Nat) (news : List Value) (hx : a.eval x = .slice (some ad) m c) (hl : news.length = m * size) (hnews : ∀ j u, news[j]? = some u → w.cell? (ad.add j) = some u) (h1 : ∀ u ∈ news, u.oneCell' = true)
    (h63 : n + m ≤ maxLen) (hbytes : (n + m) * bytes ≤ 140737488355328) (hbase : base ≤ w.heap.size)
    (h : ∀ v' w', w'.ownsRow base e size v' (n + m) (xs ++ news) → w.grownBy w' v.ownBlock → (v'.ownBlock = v.ownBlock ∨ v'.ownBlock = some w.heap.size) → K (a.put o.dst v') w') : o.wp P a w K Q := by
  obtain ⟨v', w', hr, h2, h3, _, h5⟩ := run_append_own_at (P := P) w base t o.type e i z size bytes ht hi hz hsize hby hzs hsz v n xs hown ad m c news hl hnews h1 h63 hbytes hbase
  unfold Oper.wp execOp
  simp only [ho, resolve, invoke, builtin, Sem.run_bind, Sem.run_pure, Result.andThen_ok, List.map_toArray, List.map_cons, List.map_nil, hs, hx, hr]
  exact h v' w' h2 h3 h5
def slN (n g : Nat) : Value := .slice (some ⟨g, 0, none⟩) (n + 1) (n + 1)
def nils (n : Nat) : Array Value := madeCells #[.slice none 0 0] (n + 1)
theorem nils_size (n : Nat) : (nils n).size = n + 1 := by simp [nils, madeCells]
theorem nils_get {n i : Nat} {v : Value} (h : (nils n)[i]? = some v) : v = .slice none 0 0 := by
  have h2 : v ∈ (nils n).toList := by
    rw [← Array.getElem?_toList] at h
    exact List.mem_of_getElem? h
  unfold nils at h2
  rw [toList_madeCells_one] at h2
  exact (List.mem_replicate.1 h2).2
theorem Tryd.infoS : (Tryd.prog.info? 101).map (fun i => (i.zero, i.size, i.bytes)) = some (some (.slice none 0 0), 1, 24) := by kernel_rfl
theorem Tryd.infoSS : (Tryd.prog.info? 119).map (fun i => (i.zero, i.size, i.bytes)) = some (some (.slice none 0 0), 1, 24) := by kernel_rfl
theorem Tryd.infoPt : (Tryd.prog.info? 121).map (fun i => (i.zero, i.size, i.bytes)) = some (some (.agg #[.int .i64 0, .string ⟨#[]⟩, .slice none 0 0]), 3, 48) := by kernel_rfl
theorem run_nmake (n : Nat) (hn : n ≤ 1000) (w : World) : (Instr.makeSlice 119 (.int .i64 ((n : Int) + 1)) (.int .i64 ((n : Int) + 1))).run Tryd.prog w = .ok (slN n w.heap.size) (w.alloc (.cells (nils n) 101)) := by
  obtain ⟨i0, hi, hz0, hz1, hz2⟩ := info_parts Tryd.infoS
  have hr := run_make (P := Tryd.prog) w 119 101 i0 (.slice none 0 0) Tryd.underlying119 hi hz0 .i64 .i64 ((n : Int) + 1) ((n : Int) + 1) (by omega) (by omega) (by rw [hz2]; omega) (by omega)
  have e : ((n : Int) + 1).toNat = n + 1 := by omega
  rw [hz1, e, Nat.mul_one] at hr
  exact hr
theorem own_type {w : World} {B : Nat} {e : TypeId} {z n : Nat} {v : Value} {xs : List Value} (h : w.ownsRow B e z v n xs) {g : Nat} (hg : v.ownBlock = some g) : ∃ cur, w.heap[g]? = some (.cells cur e (0, 0)) := by
  rcases h.2 with ⟨rfl, _⟩ | ⟨g2, cap, cur, rfl, _, h2, _⟩
  · cases hg
  · have : g2 = g := by simpa [Value.ownBlock] using hg
    subst this
    exact ⟨cur, h2⟩
theorem own_other {w : World} {B B2 : Nat} {e e2 : TypeId} {z z2 n n2 : Nat} {v v2 : Value} {xs xs2 : List Value} (h : w.ownsRow B e z v n xs) (h2 : w.ownsRow B2 e2 z2 v2 n2 xs2) (hne : e ≠ e2) {g : Nat} (hg : v.ownBlock = some g) : some g ≠ v2.ownBlock := by
  intro hg2
  obtain ⟨c1, e1⟩ := own_type h hg
  obtain ⟨c2, e2'⟩ := own_type h2 hg2.symm
  rw [e1] at e2'
  have := Option.some.inj e2'
  injection this with _ h3 _
  exact hne h3
theorem own_cells {w : World} {B2 : Nat} {e e2 : TypeId} {z2 n2 : Nat} {v2 : Value} {xs2 : List Value} {b : Nat} {cur : Array Value} (h : w.heap[b]? = some (.cells cur e (0, 0))) (h2 : w.ownsRow B2 e2 z2 v2 n2 xs2) (hne : e ≠ e2) : some b ≠ v2.ownBlock := by
  intro hg2
  obtain ⟨c2, e2'⟩ := own_type h2 hg2.symm
  rw [h] at e2'
  have := Option.some.inj e2'
  injection this with _ h3 _
  exact hne h3
/-- The table under way. -/
structure Lv where
  ps : List RNd
  ks : List (List Nat)
  es : List Nat
  os : List Nat
  vL : Value
  vE : Value
  vO : Value
structure Ls (w : World) (p : Nat) (s : ByteArray) (x : Lv) : Prop where
  tab : w.heap[p]? = some (.cells #[.string s, x.vL, x.vE, x.vO] 100 (0, 0))
  rowL : w.ownsRow (p + 1) 121 3 x.vL x.ps.length (rdRow x.ps)
  rowE : w.ownsRow (p + 1) 119 1 x.vE x.es.length (x.es.map (slN s.size))
  rowO : w.ownsRow (p + 1) 119 1 x.vO x.os.length (x.os.map (slN s.size))
  eo : ∀ g, x.vE.ownBlock = some g → x.vO.ownBlock ≠ some g
  kids : ∀ (i : Nat) (a : RNd) (l : List Nat), x.ps[i]? = some a → x.ks[i]? = some l → w.ownsRow (p + 1) 3 1 a.kids l.length (ints l) ∧ a.kn = l.length
  kd : ∀ (i j : Nat) (a b : RNd), i ≠ j → x.ps[i]? = some a → x.ps[j]? = some b → ∀ g, a.kids.ownBlock = some g → b.kids.ownBlock ≠ some g
  er : ∀ e, e ∈ x.es ++ x.os → p + 1 ≤ e ∧ w.heap[e]? = some (.cells (nils s.size) 101 (0, 0))
  nd : (x.es ++ x.os).Nodup
  lp : x.ps.length = x.ks.length
theorem Ls.same {w w' : World} {p : Nat} {s : ByteArray} {x : Lv} (h : Ls w p s x) (hk : ∀ b, b < w.heap.size → w'.heap[b]? = w.heap[b]?) : Ls w' p s x :=
  ⟨(hk _ (Array.getElem?_eq_some_iff.1 h.tab).1).trans h.tab, rg_own_kept h.rowL fun g hg => hk g (rg_own_base h.rowL g hg).2, rg_own_kept h.rowE fun g hg => hk g (rg_own_base h.rowE g hg).2, rg_own_kept h.rowO fun g hg => hk g (rg_own_base h.rowO g hg).2, h.eo,
   fun i a l ha hl => ⟨rg_own_kept (h.kids i a l ha hl).1 fun g hg => hk g (rg_own_base (h.kids i a l ha hl).1 g hg).2, (h.kids i a l ha hl).2⟩, h.kd,
   fun e he => ⟨(h.er e he).1, (hk _ (Array.getElem?_eq_some_iff.1 (h.er e he).2).1).trans (h.er e he).2⟩, h.nd, h.lp⟩
theorem Ls.next {w w' : World} {p : Nat} {s : ByteArray} {x : Lv} (h : Ls w p s x) (hb : Below w.heap.size w w') : Ls w' p s x := h.same fun b hl => hb.block b hl
theorem Ls.plt {w : World} {p : Nat} {s : ByteArray} {x : Lv} (h : Ls w p s x) : p < w.heap.size := (Array.getElem?_eq_some_iff.1 h.tab).1
theorem get_snoc {α : Type} {l : List α} {a y : α} {i : Nat} (h : (l ++ [a])[i]? = some y) : (l[i]? = some y) ∨ (i = l.length ∧ y = a) := by
  rcases Nat.lt_or_ge i l.length with hi | hi
  · rw [List.getElem?_append_left hi] at h; exact .inl h
  · rw [List.getElem?_append_right hi] at h
    have h2 : i - l.length = 0 := by
      have := (List.getElem?_eq_some_iff.1 h).1
      simp at this; omega
    rw [h2] at h
    simp at h
    exact .inr ⟨by omega, h.symm⟩
/-- A part more. -/
theorem Ls.pushL {w w' : World} {p : Nat} {s : ByteArray} {x : Lv} (h : Ls w p s x) {a : RNd} (ha : a.kids = .slice none 0 0) (ha2 : a.kn = 0) {v : Value} (hown : w'.ownsRow (p + 1) 121 3 v (x.ps.length + 1) (rdRow x.ps ++ a.vals)) (hg : w.grownBy w' x.vL.ownBlock) :
    Ls (w'.setCell ⟨p, 1, none⟩ v) p s { x with ps := x.ps ++ [a], ks := x.ks ++ [[]], vL := v } := by
  have hk : ∀ b, b < w.heap.size → some b ≠ x.vL.ownBlock → b ≠ p → (w'.setCell ⟨p, 1, none⟩ v).heap[b]? = w.heap[b]? := fun b hl hn hp => (Below.heap_setCell _ _ _ _ hp).trans (hg.block b hl hn)
  have hpn : some p ≠ x.vL.ownBlock := fun e => by have := (rg_own_base h.rowL p e.symm).1; omega
  have htab := (hg.block p h.plt hpn).trans h.tab
  have hle : w.heap.size ≤ w'.heap.size := hg.size
  refine ⟨?_, ?_, ?_, ?_, h.eo, ?_, ?_, ?_, h.nd, ?_⟩
  · have := rg_setCell (i := 1) htab v
    simpa using this
  · rw [rdRow_append, rdRow_one, List.length_append]
    exact rg_own_kept hown fun g hg2 => Below.heap_setCell _ _ _ _ (by have := (rg_own_base hown g hg2).1; show g ≠ p; omega)
  · exact rg_own_kept h.rowE fun g hg2 => hk g (rg_own_base h.rowE g hg2).2 (own_other h.rowE h.rowL (by decide) hg2) (by have := (rg_own_base h.rowE g hg2).1; omega)
  · exact rg_own_kept h.rowO fun g hg2 => hk g (rg_own_base h.rowO g hg2).2 (own_other h.rowO h.rowL (by decide) hg2) (by have := (rg_own_base h.rowO g hg2).1; omega)
  · intro i b l hb hl
    rcases get_snoc hb with hb | ⟨hi, rfl⟩
    · have hi : i < x.ks.length := by rw [← h.lp]; exact (List.getElem?_eq_some_iff.1 hb).1
      change (x.ks ++ [[]])[i]? = some l at hl
      rw [List.getElem?_append_left hi] at hl
      obtain ⟨h1, h2⟩ := h.kids i b l hb hl
      exact ⟨rg_own_kept h1 fun g hg2 => hk g (rg_own_base h1 g hg2).2 (own_other h1 h.rowL (by decide) hg2) (by have := (rg_own_base h1 g hg2).1; omega), h2⟩
    · change (x.ks ++ [[]])[i]? = some l at hl
      rw [hi, h.lp, List.getElem?_append_right (Nat.le_refl _), Nat.sub_self] at hl
      obtain rfl : [] = l := by simpa using hl
      exact ⟨by rw [ha]; exact World.ownsRow_nil _ _ _ _, ha2⟩
  · intro i j b c hij hb hc g hg2
    rcases get_snoc hb with hb | ⟨hi, rfl⟩
    · rcases get_snoc hc with hc | ⟨hj, rfl⟩
      · exact h.kd i j b c hij hb hc g hg2
      · rw [ha]; simp [Value.ownBlock]
    · rw [ha] at hg2; cases hg2
  · intro e he
    obtain ⟨h1, h2⟩ := h.er e he
    exact ⟨h1, (hk e (Array.getElem?_eq_some_iff.1 h2).1 (own_cells h2 h.rowL (by decide)) (by omega)).trans h2⟩
  · simp [h.lp]
/-- A row more of what is known. -/
theorem Ls.pushE {w w1 w' : World} {p : Nat} {s : ByteArray} {x : Lv} (h : Ls w p s x) {e0 : Nat} (he0 : w.heap.size ≤ e0) (hb1 : Below w.heap.size w w1) (hnew : w1.heap[e0]? = some (.cells (nils s.size) 101 (0, 0))) {v : Value} (hown : w'.ownsRow (p + 1) 119 1 v (x.es.length + 1) (x.es.map (slN s.size) ++ [slN s.size e0])) (hg : w1.grownBy w' x.vE.ownBlock) (hat : v.ownBlock = x.vE.ownBlock ∨ ∃ g, v.ownBlock = some g ∧ w.heap.size ≤ g) :
    Ls (w'.setCell ⟨p, 2, none⟩ v) p s { x with es := x.es ++ [e0], vE := v } := by
  have hs1 := hb1.size
  have hk1 : ∀ b, b < w1.heap.size → some b ≠ x.vE.ownBlock → b ≠ p → (w'.setCell ⟨p, 2, none⟩ v).heap[b]? = w1.heap[b]? := fun b hl hn hp => (Below.heap_setCell _ _ _ _ hp).trans (hg.block b hl hn)
  have hk : ∀ b, b < w.heap.size → some b ≠ x.vE.ownBlock → b ≠ p → (w'.setCell ⟨p, 2, none⟩ v).heap[b]? = w.heap[b]? := fun b hl hn hp => (hk1 b (by omega) hn hp).trans (hb1.block b hl)
  have hpl := h.plt
  have hpn : some p ≠ x.vE.ownBlock := fun e => by have := (rg_own_base h.rowE p e.symm).1; omega
  have htab := ((hg.block p (by omega) hpn).trans (hb1.block p hpl)).trans h.tab
  have hne : e0 ∉ x.es ++ x.os := fun hm => by
    have := (Array.getElem?_eq_some_iff.1 (h.er e0 hm).2).1; omega
  refine ⟨?_, ?_, ?_, ?_, ?_, ?_, h.kd, ?_, ?_, h.lp⟩
  · have := rg_setCell (i := 2) htab v
    simpa using this
  · exact rg_own_kept h.rowL fun g hg2 => hk g (rg_own_base h.rowL g hg2).2 (own_other h.rowL h.rowE (by decide) hg2) (by have := (rg_own_base h.rowL g hg2).1; omega)
  · rw [List.map_append, List.length_append]
    exact rg_own_kept hown fun g hg2 => Below.heap_setCell _ _ _ _ (by have := (rg_own_base hown g hg2).1; show g ≠ p; omega)
  · exact rg_own_kept h.rowO fun g hg2 => hk g (rg_own_base h.rowO g hg2).2 (fun e => h.eo g e.symm hg2) (by have := (rg_own_base h.rowO g hg2).1; omega)
  · intro g hg2 hg3
    rcases hat with hat | ⟨g2, hat, hge⟩
    · exact h.eo g (hat.symm.trans hg2) hg3
    · have := (rg_own_base h.rowO g hg3).2
      rw [show v.ownBlock = some g from hg2] at hat
      cases hat; omega
  · intro i b l hb hl
    obtain ⟨h1, h2⟩ := h.kids i b l hb hl
    exact ⟨rg_own_kept h1 fun g hg2 => hk g (rg_own_base h1 g hg2).2 (own_other h1 h.rowE (by decide) hg2) (by have := (rg_own_base h1 g hg2).1; omega), h2⟩
  · intro e he
    have he : e ∈ x.es ++ x.os ∨ e = e0 := by
      simp only [List.mem_append, List.mem_singleton] at he ⊢
      rcases he with (h | h) | h
      · exact .inl (.inl h)
      · exact .inr h
      · exact .inl (.inr h)
    rcases he with he | rfl
    · obtain ⟨h1, h2⟩ := h.er e he
      exact ⟨h1, (hk e (Array.getElem?_eq_some_iff.1 h2).1 (own_cells h2 h.rowE (by decide)) (by omega)).trans h2⟩
    · have hel := (Array.getElem?_eq_some_iff.1 hnew).1
      refine ⟨by omega, (hk1 e hel (fun e2 => ?_) (by omega)).trans hnew⟩
      have := (rg_own_base h.rowE e e2.symm).2
      omega
  · show (x.es ++ [e0] ++ x.os).Nodup
    rw [List.append_assoc]
    have h1 := h.nd
    rw [List.nodup_append] at h1 ⊢
    obtain ⟨h1, h2, h3⟩ := h1
    refine ⟨h1, ?_, ?_⟩
    · rw [List.singleton_append, List.nodup_cons]
      exact ⟨fun hm => hne (List.mem_append.2 (.inr hm)), h2⟩
    · intro a ha b hb e
      subst e
      rcases List.mem_cons.1 hb with rfl | hb
      · exact hne (List.mem_append.2 (.inl ha))
      · exact h3 a ha a hb rfl
theorem Ls.pushO {w w1 w' : World} {p : Nat} {s : ByteArray} {x : Lv} (h : Ls w p s x) {e0 : Nat} (he0 : w.heap.size ≤ e0) (hb1 : Below w.heap.size w w1) (hnew : w1.heap[e0]? = some (.cells (nils s.size) 101 (0, 0))) {v : Value} (hown : w'.ownsRow (p + 1) 119 1 v (x.os.length + 1) (x.os.map (slN s.size) ++ [slN s.size e0])) (hg : w1.grownBy w' x.vO.ownBlock) (hat : v.ownBlock = x.vO.ownBlock ∨ ∃ g, v.ownBlock = some g ∧ w.heap.size ≤ g) :
    Ls (w'.setCell ⟨p, 3, none⟩ v) p s { x with os := x.os ++ [e0], vO := v } := by
  have hs1 := hb1.size
  have hk1 : ∀ b, b < w1.heap.size → some b ≠ x.vO.ownBlock → b ≠ p → (w'.setCell ⟨p, 3, none⟩ v).heap[b]? = w1.heap[b]? := fun b hl hn hp => (Below.heap_setCell _ _ _ _ hp).trans (hg.block b hl hn)
  have hk : ∀ b, b < w.heap.size → some b ≠ x.vO.ownBlock → b ≠ p → (w'.setCell ⟨p, 3, none⟩ v).heap[b]? = w.heap[b]? := fun b hl hn hp => (hk1 b (by omega) hn hp).trans (hb1.block b hl)
  have hpl := h.plt
  have hpn : some p ≠ x.vO.ownBlock := fun e => by have := (rg_own_base h.rowO p e.symm).1; omega
  have htab := ((hg.block p (by omega) hpn).trans (hb1.block p hpl)).trans h.tab
  have hne : e0 ∉ x.es ++ x.os := fun hm => by
    have := (Array.getElem?_eq_some_iff.1 (h.er e0 hm).2).1; omega
  refine ⟨?_, ?_, ?_, ?_, ?_, ?_, h.kd, ?_, ?_, h.lp⟩
  · have := rg_setCell (i := 3) htab v
    simpa using this
  · exact rg_own_kept h.rowL fun g hg2 => hk g (rg_own_base h.rowL g hg2).2 (own_other h.rowL h.rowO (by decide) hg2) (by have := (rg_own_base h.rowL g hg2).1; omega)
  · exact rg_own_kept h.rowE fun g hg2 => hk g (rg_own_base h.rowE g hg2).2 (fun e => h.eo g hg2 e.symm) (by have := (rg_own_base h.rowE g hg2).1; omega)
  · rw [List.map_append, List.length_append]
    exact rg_own_kept hown fun g hg2 => Below.heap_setCell _ _ _ _ (by have := (rg_own_base hown g hg2).1; show g ≠ p; omega)
  · intro g hg2 hg3
    rcases hat with hat | ⟨g2, hat, hge⟩
    · exact h.eo g hg2 (hat.symm.trans hg3)
    · have := (rg_own_base h.rowE g hg2).2
      rw [show v.ownBlock = some g from hg3] at hat
      cases hat; omega
  · intro i b l hb hl
    obtain ⟨h1, h2⟩ := h.kids i b l hb hl
    exact ⟨rg_own_kept h1 fun g hg2 => hk g (rg_own_base h1 g hg2).2 (own_other h1 h.rowO (by decide) hg2) (by have := (rg_own_base h1 g hg2).1; omega), h2⟩
  · intro e he
    have he : e ∈ x.es ++ x.os ∨ e = e0 := by
      simp only [List.mem_append, List.mem_singleton] at he ⊢
      rcases he with h | h | h
      · exact .inl (.inl h)
      · exact .inl (.inr h)
      · exact .inr h
    rcases he with he | rfl
    · obtain ⟨h1, h2⟩ := h.er e he
      exact ⟨h1, (hk e (Array.getElem?_eq_some_iff.1 h2).1 (own_cells h2 h.rowO (by decide)) (by omega)).trans h2⟩
    · have hel := (Array.getElem?_eq_some_iff.1 hnew).1
      refine ⟨by omega, (hk1 e hel (fun e2 => ?_) (by omega)).trans hnew⟩
      have := (rg_own_base h.rowO e e2.symm).2
      omega
  · show (x.es ++ (x.os ++ [e0])).Nodup
    rw [← List.append_assoc, List.nodup_append]
    refine ⟨h.nd, by simp, fun a ha b hb e => ?_⟩
    rw [List.mem_singleton] at hb
    subst e; subst hb
    exact hne ha
/-- A kid more of a part. -/
theorem Ls.pushK {w w' : World} {p : Nat} {s : ByteArray} {x : Lv} (h : Ls w p s x) {k bl cl : Nat} (hL : x.vL = .slice (some ⟨bl, 0, none⟩) x.ps.length cl) {a : RNd} {l : List Nat} (ha : x.ps[k]? = some a) (hl : x.ks[k]? = some l) {j g' c' : Nat}
    (hown : w'.ownsRow (p + 1) 3 1 (.slice (some ⟨g', 0, none⟩) (l.length + 1) c') (l.length + 1) (ints l ++ [.int .i64 (j : Int)])) (hg : w.grownBy w' a.kids.ownBlock) (hat : some g' = a.kids.ownBlock ∨ w.heap.size ≤ g') :
    Ls (w'.setCell ⟨bl, k * 3 + 2, none⟩ (.slice (some ⟨g', 0, none⟩) (l.length + 1) c')) p s { x with ps := x.ps.set k ⟨a.op, a.set, some ⟨g', 0, none⟩, l.length + 1, c'⟩, ks := x.ks.set k (l ++ [j]) } := by
  have hkl : k < x.ps.length := (List.getElem?_eq_some_iff.1 ha).1
  obtain ⟨hr, hkn⟩ := h.kids k a l ha hl
  have hblk : x.vL.ownBlock = some bl := by rw [hL]; rfl
  have hbl := rg_own_base h.rowL bl hblk
  have hnbl : some bl ≠ a.kids.ownBlock := own_other h.rowL hr (by decide) hblk
  have hk : ∀ b, b < w.heap.size → some b ≠ a.kids.ownBlock → b ≠ bl → (w'.setCell ⟨bl, k * 3 + 2, none⟩ (.slice (some ⟨g', 0, none⟩) (l.length + 1) c')).heap[b]? = w.heap[b]? := fun b hl hn hp => (Below.heap_setCell _ _ _ _ hp).trans (hg.block b hl hn)
  have hpl := h.plt
  have hpn : some p ≠ a.kids.ownBlock := fun e => by have := (rg_own_base hr p e.symm).1; omega
  have hrL : w'.ownsRow (p + 1) 121 3 x.vL x.ps.length (rdRow x.ps) := rg_own_kept h.rowL fun g hg2 => by
    rw [hblk] at hg2; cases hg2
    exact hg.block bl hbl.2 hnbl
  have hset : ∀ (l : List RNd) (k : Nat) (b : RNd), l[k]? = some a → b.op = a.op → b.set = a.set → (rdRow l).set (k * 3 + 2) b.kids = rdRow (l.set k b) := by
    intro l
    induction l with
    | nil => intro k b hk _ _; simp at hk
    | cons y l ih =>
      intro k b hk e1 e2
      cases k with
      | zero =>
        obtain rfl : y = a := by simpa using hk
        show (y.vals ++ rdRow l).set (0 * 3 + 2) b.kids = b.vals ++ rdRow l
        unfold RNd.vals
        rw [e1, e2]
        rfl
      | succ k =>
        have := ih k b (by simpa using hk) e1 e2
        show (y.vals ++ rdRow l).set ((k + 1) * 3 + 2) b.kids = y.vals ++ rdRow (l.set k b)
        rw [← this, show (k + 1) * 3 + 2 = y.vals.length + (k * 3 + 2) from by show _ = 3 + _; omega]
        rw [List.set_append_right _ _ (by omega), Nat.add_sub_cancel_left]
  have hgne : g' ≠ bl := fun e => by
    rcases hat with h2 | h2
    · exact hnbl (by rw [← e]; exact h2)
    · omega
  refine ⟨?_, ?_, ?_, ?_, h.eo, ?_, ?_, ?_, h.nd, ?_⟩
  · exact (hk p hpl hpn (by omega)).trans h.tab
  · rw [List.length_set]
    rw [hL] at hrL ⊢
    have h2 := hrL.stored (k * 3 + 2) (.slice (some ⟨g', 0, none⟩) (l.length + 1) c')
    have h3 := hset x.ps k ⟨a.op, a.set, some ⟨g', 0, none⟩, l.length + 1, c'⟩ ha rfl rfl
    unfold RNd.kids at h3
    rw [h3] at h2
    exact h2.1
  · exact rg_own_kept h.rowE fun g hg2 => hk g (rg_own_base h.rowE g hg2).2 (own_other h.rowE hr (by decide) hg2) (fun e => own_other h.rowE h.rowL (by decide) hg2 (by rw [e]; exact hblk.symm))
  · exact rg_own_kept h.rowO fun g hg2 => hk g (rg_own_base h.rowO g hg2).2 (own_other h.rowO hr (by decide) hg2) (fun e => own_other h.rowO h.rowL (by decide) hg2 (by rw [e]; exact hblk.symm))
  · intro i b m hb hm
    change (x.ps.set k _)[i]? = some b at hb
    change (x.ks.set k _)[i]? = some m at hm
    rw [List.getElem?_set] at hb hm
    by_cases e : k = i
    · subst e
      rw [if_pos rfl, if_pos hkl] at hb
      rw [if_pos rfl, if_pos (by rw [← h.lp]; exact hkl)] at hm
      cases hb; cases hm
      refine ⟨?_, by simp⟩
      rw [List.length_append, ints_append]
      exact rg_own_kept hown fun g hg2 => Below.heap_setCell _ _ _ _ (by
        have : g' = g := Option.some.inj hg2
        rw [← this]; exact hgne)
    · rw [if_neg e] at hb hm
      obtain ⟨h1, h2⟩ := h.kids i b m hb hm
      exact ⟨rg_own_kept h1 fun g hg2 => hk g (rg_own_base h1 g hg2).2 (fun e2 => h.kd k i a b e ha hb g e2.symm hg2) (fun e2 => own_other h1 h.rowL (by decide) hg2 (by rw [e2]; exact hblk.symm)), h2⟩
  · have hfresh : ∀ i b, i ≠ k → x.ps[i]? = some b → b.kids.ownBlock ≠ some g' := fun i b hik hb hg2 => by
      have hi2 : i < x.ks.length := by rw [← h.lp]; exact (List.getElem?_eq_some_iff.1 hb).1
      have h1 := (h.kids i b _ hb (List.getElem?_eq_getElem hi2)).1
      rcases hat with h2 | h2
      · exact h.kd i k b a hik hb ha g' hg2 h2.symm
      · have := (rg_own_base h1 g' hg2).2; omega
    intro i j2 b c hij hb hc g hg2
    change (x.ps.set k _)[i]? = some b at hb
    change (x.ps.set k _)[j2]? = some c at hc
    rw [List.getElem?_set] at hb hc
    by_cases e : k = i
    · rw [if_pos e, if_pos hkl] at hb
      rw [if_neg (by omega)] at hc
      cases hb
      have : g' = g := by simpa [RNd.kids, Value.ownBlock] using hg2
      subst this
      exact hfresh j2 c (by omega) hc
    · rw [if_neg e] at hb
      by_cases e2 : k = j2
      · rw [if_pos e2, if_pos hkl] at hc
        cases hc
        intro h3
        have : g' = g := by simpa [RNd.kids, Value.ownBlock] using h3
        subst this
        exact hfresh i b (by omega) hb hg2
      · rw [if_neg e2] at hc
        exact h.kd i j2 b c hij hb hc g hg2
  · intro e he
    obtain ⟨h1, h2⟩ := h.er e he
    exact ⟨h1, (hk e (Array.getElem?_eq_some_iff.1 h2).1 (own_cells h2 hr (by decide)) (fun e3 => own_cells h2 h.rowL (by decide) (by rw [e3]; exact hblk.symm))).trans h2⟩
  · simp [h.lp]
end Go.Proofs.YtjjejcgpeefclaaDoor
