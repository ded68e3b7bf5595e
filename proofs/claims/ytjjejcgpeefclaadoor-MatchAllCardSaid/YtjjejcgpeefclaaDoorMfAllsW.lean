/-
  THE WALK of MatchAll: all matches are told.
-/
import Derived.Test.YtjjejcgpeefclaaDoorMfAll
import Derived.Test.YtjjejcgpeefclaaDoorMtAl2
import Derived.Test.YtjjejcgpeefclaaDoorMtLk
namespace Go.Proofs.YtjjejcgpeefclaaDoor
open Go.RowKit
attribute [local go_sem] Oper.semAt_some

/-- What comes from here on. -/
inductive Cont (s : ByteArray) (t : RT) : List (Nat × Nat) → Nat → Option Nat → List (Nat × Nat) → Prop where
  | done {xs : List (Nat × Nat)} {a : Nat} {told : Option Nat} (h : FndIs s t a none) : Cont s t xs a told xs
  | skip {xs l : List (Nat × Nat)} {a i : Nat} (hf : FndIs s t a (some (i, i))) (h : Cont s t xs (i + 1) (some i) l) : Cont s t xs a (some i) l
  | take {xs l : List (Nat × Nat)} {a i j : Nat} {told : Option Nat} (hf : FndIs s t a (some (i, j))) (hn : ¬ (i = j ∧ told = some i)) (h : Cont s t (xs ++ [(i, j)]) (if i = j then j + 1 else j) (some j) l) : Cont s t xs a told l
theorem Pth.back {s : ByteArray} {t : RT} {xs l : List (Nat × Nat)} {a : Nat} {told : Option Nat} (h : Pth s t xs a told) : Cont s t xs a told l → Cont s t [] 0 none l := by
  induction h with
  | start => exact id
  | skip h hf ih => exact fun hc => ih (.skip hf hc)
  | take h hf hn ih => exact fun hc => ih (.take hf hn hc)
theorem Pth.forth {s : ByteArray} {t : RT} {xs l : List (Nat × Nat)} {a : Nat} {told : Option Nat} (h : Pth s t xs a told) (hc : Cont s t [] 0 none l) : Cont s t xs a told l := by
  induction h with
  | start => exact hc
  | @skip pre a i h hf ih =>
    cases ih with
    | done h2 => cases hf.one h2
    | skip hf2 h2 => exact h2
    | @take _ _ _ i2 j2 _ hf2 hn2 h2 =>
      cases hf.one hf2
      exact absurd ⟨rfl, rfl⟩ hn2
  | @take pre a i j told h hf hn ih =>
    cases ih with
    | done h2 => cases hf.one h2
    | @skip _ _ _ i2 hf2 h2 =>
      cases hf.one hf2
      exact absurd ⟨rfl, rfl⟩ hn
    | @take _ _ _ i2 j2 _ hf2 hn2 h2 =>
      cases hf.one hf2
      exact h2
theorem Cont.pre {s : ByteArray} {t : RT} {xs l : List (Nat × Nat)} {a : Nat} {told : Option Nat} (h : Cont s t xs a told l) : xs <+: l := by
  induction h with
  | done h => exact List.prefix_refl _
  | skip hf h ih => exact ih
  | take hf hn h ih => exact (List.prefix_append _ _).trans ih
theorem AllS.cont {s : ByteArray} {t : RT} {l : List (Nat × Nat)} (h : AllS s t l) : Cont s t [] 0 none l := by
  obtain ⟨a, told, h1, h2⟩ := h
  exact h1.back (.done h2)
theorem AllS.pre {s : ByteArray} {t : RT} {xs l : List (Nat × Nat)} (h : AllS s t l) (h2 : AllP s t xs) : xs <+: l := by
  obtain ⟨a, told, h2⟩ := h2
  exact (h2.forth h.cont).pre
theorem AllS.eq {s : ByteArray} {t : RT} {xs l : List (Nat × Nat)} (h : AllS s t l) (h2 : AllS s t xs) : xs = l := by
  obtain ⟨a, told, h2, h3⟩ := h2
  have := h2.forth h.cont
  cases this with
  | done h => rfl
  | skip hf _ => cases h3.one hf
  | take hf _ _ => cases h3.one hf
/-- A box of one cell. -/
def Bo (V : World) (b : Nat) (t : TypeId) (v : Value) : Prop := V.heap[b]? = some (.cells #[v] t (0, 0))
theorem Bo.lt {V : World} {b : Nat} {t : TypeId} {v : Value} (h : Bo V b t v) : b < V.heap.size := (Array.getElem?_eq_some_iff.1 h).1
theorem Bo.next {V V' : World} {b : Nat} {t : TypeId} {v : Value} (h : Bo V b t v) (hb : Below V.heap.size V V') : Bo V' b t v := (hb.block b h.lt).trans h
theorem Bo.new (V : World) (t : TypeId) (v : Value) : Bo (V.alloc (.cells #[v] t)) V.heap.size t v := mt_heap_new _ _
theorem Bo.set {V : World} {b : Nat} {t : TypeId} {v : Value} (h : Bo V b t v) (u : Value) : Bo (V.setCell ⟨b, 0, none⟩ u) b t u := rg_setCell h u
theorem Bo.setNe {V : World} {b k : Nat} {t : TypeId} {v : Value} (h : Bo V b t v) (hk : b ≠ k) (u : Value) : Bo (V.setCell ⟨k, 0, none⟩ u) b t v := (Below.heap_setCell V ⟨k, 0, none⟩ u b hk).trans h
theorem Bo.put {V : World} {b k : Nat} {t : TypeId} {v : Value} (h : Bo V b t v) (hk : b ≠ k) (x : Obj) : Bo (V.putObj k x) b t v := (World.putObj_heap_other hk).trans h
theorem Bo.neLoop {V : World} {b k : Nat} {t : TypeId} {v : Value} {r : Loop} (h : Bo V b t v) (hl : V.heap[k]? = some (.loop r)) : b ≠ k := fun e => by
  subst e; unfold Bo at h; rw [hl] at h; cases h
theorem below_puto {B : Nat} {a w : World} (h : Below B a w) {k : Nat} (hk : B ≤ k) (x : Obj) : Below B a (w.putObj k x) :=
  ⟨h.os, h.tape, h.output, by rw [World.putObj_size]; exact h.size, fun j hj => (World.putObj_heap_other (by omega)).trans (h.block j hj)⟩
/-- The number's box and the answer's. -/
def Al0 (w V : World) (most : Int) : Prop := Below w.heap.size w V ∧ Bo V w.heap.size 3 (.int .i64 most) ∧ Bo V (w.heap.size + 1) 4 (.bool false)
theorem Al0.next {w V V' : World} {most : Int} (h : Al0 w V most) (hb : Below V.heap.size V V') : Al0 w V' most := ⟨h.1.trans (hb.mono h.1.size), h.2.1.next hb, h.2.2.next hb⟩
/-- Behind some rounds. -/
def AlI (w : World) (most : Int) (b g c : Nat) (L : List (Nat × Nat)) (pre : List (Nat × Nat)) (W : World) : Prop :=
  Al0 w W most ∧ Bo W b 39 (.slice (some ⟨g, 0, none⟩) L.length c) ∧ Bo W (b + 1) 3 (.int .i64 (pre.length : Int)) ∧ RowP2 W 0 g c L
theorem AlI.next {w W W' : World} {most : Int} {b g c : Nat} {L pre : List (Nat × Nat)} (h : AlI w most b g c L pre W) (hb : Below W.heap.size W W') : AlI w most b g c L pre W' := ⟨h.1.next hb, h.2.1.next hb, h.2.2.1.next hb, h.2.2.2.next hb⟩
theorem rowp_ne {W : World} {g c k base : Nat} {L : List (Nat × Nat)} {x : Obj} (h : RowP2 W base g c L) (hl : W.heap[k]? = some x) (hx : ∀ cur, x ≠ .cells cur 44 (0, 0)) : g ≠ k := fun e => by
  subst e
  obtain ⟨cur, hc⟩ := own_type h (g := g) rfl
  rw [hl] at hc
  exact hx cur (Option.some.inj hc)
theorem AlI.put {w W : World} {most : Int} {b g c k : Nat} {L pre : List (Nat × Nat)} {r : Loop} (h : AlI w most b g c L pre W) (hk : w.heap.size ≤ k) (hl : W.heap[k]? = some (.loop r)) (x : Obj) : AlI w most b g c L pre (W.putObj k x) :=
  ⟨⟨below_puto h.1.1 hk x, h.1.2.1.put (h.1.2.1.neLoop hl) x, h.1.2.2.put (h.1.2.2.neLoop hl) x⟩, h.2.1.put (h.2.1.neLoop hl) x, h.2.2.1.put (h.2.2.1.neLoop hl) x, h.2.2.2.kept (World.putObj_heap_other (rowp_ne h.2.2.2 hl fun cur e => by cases e))⟩
theorem bo_ne {W : World} {g c b base : Nat} {L : List (Nat × Nat)} {t : TypeId} {v : Value} (h : RowP2 W base g c L) (hb : Bo W b t v) (ht : t ≠ 44) : g ≠ b := rowp_ne h hb fun cur e => by
  injection e with _ h2 _
  exact ht h2
theorem AlI.step {w W : World} {most : Int} {b g c : Nat} {L pre : List (Nat × Nat)} (h : AlI w most b g c L pre W) (hb : w.heap.size + 2 ≤ b) (x : Nat × Nat) : AlI w most b g c L (pre ++ [x]) (W.setCell ⟨b + 1, 0, none⟩ (.int .i64 ((pre.length : Int) + 1))) := by
  refine ⟨⟨h.1.1.setCell (by show w.heap.size ≤ b + 1; omega) _, h.1.2.1.setNe (by omega) _, h.1.2.2.setNe (by omega) _⟩, h.2.1.setNe (by omega) _, ?_, h.2.2.2.kept (Below.heap_setCell _ _ _ _ (bo_ne h.2.2.2 h.2.2.1 (by decide)))⟩
  rw [show (((pre ++ [x]).length : Nat) : Int) = (pre.length : Int) + 1 from by simp]
  exact h.2.2.1.set _
theorem kpo_set {bs : Nat} {d : Pd} {t : RT} {s : ByteArray} {g b : Nat} {W : World} (h : KpS bs d t s g W) (hne : ∀ k, k = bs ∨ k = d.p ∨ k = d.t ∨ k = d.a ∨ k = d.h ∨ k = d.f ∨ k = d.l ∨ k = g ∨ k = (0 : Nat) → k ≠ b) (u : Value) : KpS bs d t s g (W.setCell ⟨b, 0, none⟩ u) :=
  h.kept fun k hk _ => Below.heap_setCell W ⟨b, 0, none⟩ u k (hne k hk)
theorem pg_bool {W : World} {d : Pd} {t : RT} (h : Pg W d t) {k : Nat} {v : Bool} (hl : W.heap[k]? = some (.cells #[.bool v] 4 (0, 0))) : k ≠ d.p ∧ k ≠ d.t ∧ k ≠ d.a ∧ k ≠ d.h ∧ k ≠ d.f ∧ k ≠ d.l ∧ k ≠ (0 : Nat) := by
  have hn : ∀ {c : Array Value} {e : TypeId} {b : Nat}, W.heap[b]? = some (.cells c e (0, 0)) → 4 ≠ e → k ≠ b := fun {c e b} hb hne eb => by
    subst eb
    rw [hl] at hb
    injection Option.some.inj hb with _ h3 _
    exact hne h3
  refine ⟨hn h.prog (by decide), ?_, ?_, ?_, ?_, ?_, ?_⟩
  · have := h.tk; unfold Tb at this; exact hn this (by decide)
  · have := h.ah; unfold Tb at this; exact hn this (by decide)
  · have := h.bh; unfold Tb at this; exact hn this (by decide)
  · have := h.f; unfold Tb at this; exact hn this (by decide)
  · have := h.l; unfold Tb at this; exact hn this (by decide)
  · rintro rfl
    have h0 := h.dz 0 (by decide)
    rw [rg_cell hl] at h0
    simp at h0
set_option maxHeartbeats 4000000 in
set_option maxRecDepth 100000 in
theorem all_walk (s0 t0 : ByteArray) (most : Int) (hs : s0.size ≤ maxLen) (ht : t0.size ≤ maxLen) (w : World) (hdz : Dz w) :
    Calls Tryd.prog 4 #[.string s0, .string t0, .int .i64 most] w fun e w' => e = .returned (.bool true) ∧ Below w.heap.size w w' := by
  have CS := Lib.hid fun Z => patt_any s0 hs Z
  have CT := Lib.hid fun Z => cut_any t0 14 Z ht (by omega)
  have hss := cutB_size s0 40
  have hts := cutB_size t0 14
  generalize cutB s0 40 = s at *
  generalize cutB t0 14 = t at *
  have HDZ := Lib.hid hdz
  have CAW := Lib.hid fun Z (hz : Dz Z) => mawake_any Z hz
  have CP := Lib.hid fun Z => rfparse_any s Z
  obtain ⟨W1, hW1⟩ : ∃ W1, ((w.alloc (.cells #[.int .i64 most] 3)).alloc (.cells #[.bool false] 4)) = W1 := ⟨_, rfl⟩
  have hbA : Below w.heap.size w W1 := by rw [← hW1]; exact ((Below.refl _ _).alloc (Nat.le_refl _) _).alloc (by simp) _
  have hx0 : Bo W1 w.heap.size 3 (.int .i64 most) := by rw [← hW1]; exact (Bo.new w _ _).next ((Below.refl _ _).alloc (Nat.le_refl _) _)
  have hx1 : Bo W1 (w.heap.size + 1) 4 (.bool false) := by
    rw [← hW1]
    have := Bo.new (w.alloc (.cells #[.int .i64 most] 3)) 4 (.bool false)
    rwa [World.size_alloc] at this
  have HA0 : Hid (Al0 w W1 most) := Lib.hid ⟨hbA, hx0, hx1⟩
  have CO := Lib.hid (mof_any s (by omega) W1 (hdz.next hbA))
  have HW1 := Lib.hid hW1
  clear hs ht hdz hbA hx0 hx1 hW1
  refine (callsIn_wide (n := 6)).1 ?_
  refine callsIn_of_wp_marks Tryd.func4 rfl trivial ?_ rfl
  simp only [Tryd.ntmps4, List.size_toArray, List.length_cons, List.length_nil, Nat.reduceAdd, Nat.reduceSub, Array.replicate_succ, Array.replicate_zero, List.push_toArray, List.append_toArray, List.nil_append, List.cons_append]
  refine wpIn_wide.2 ?_
  go_upto_region 1 with fail
  rw [HW1.out]
  clear HW1
  go_wp2_with fail
  refine (CS.out _).mono ?_
  rintro e w1 ⟨rfl, rfl⟩
  go_wp2_with fail
  refine (CT.out _).mono ?_
  rintro e w1 ⟨rfl, rfl⟩
  clear CS CT
  go_wp2_with fail
  refine CO.out.mono ?_
  rintro e w2 ⟨hb2, (⟨tr, r, d, ht, rfl, hpg⟩ | ⟨n, k, ht, hk, hn, rfl⟩)⟩
  · have HA2 := Lib.hid (HA0.out.next hb2)
    have HPG := Lib.hid hpg
    have HT := Lib.hid ht
    clear hb2 hpg ht CO HA0
    go_wp2_with fail
    refine (CP.out _).mono ?_
    rintro e w3 ⟨⟨nd, p, er, rfl, hor⟩, hb3⟩
    have hor : p = 0 ∧ er = 0 ∧ TreeM w3 (fun k => w2.heap.size ≤ k) tr nd := by
      rcases hor with ⟨h, _⟩ | ⟨_, t', r', h1, h2, h3, h4⟩ | ⟨_, n0, k, h1, _⟩
      · omega
      · rw [HT.out] at h1
        cases h1
        exact ⟨h2, h3, h4⟩
      · rw [HT.out] at h1; cases h1
    obtain ⟨rfl, rfl, htm⟩ := hor
    have hsh := top_shp HT.out
    have hfi := top_fine HT.out
    have hsz : sizeN tr ≤ 100000 := by
      have h1 := hfi.2
      have : s.data.toList.length = s.size := by simp
      omega
    obtain ⟨W4, hW4⟩ : ∃ W4, w3.alloc (.cells #[.int .i64 nd.op, .string nd.set, .slice nd.kp nd.kn nd.kc] 30) = W4 := ⟨_, rfl⟩
    have hb4 : Below w3.heap.size w3 W4 := by rw [← hW4]; exact (Below.refl _ _).alloc (Nat.le_refl _) _
    have hx4 : W4.heap[w3.heap.size]? = some (.cells #[.int .i64 nd.op, .string nd.set, .slice nd.kp nd.kn nd.kc] 30 (0, 0)) := by rw [← hW4]; exact mt_heap_new _ _
    have hz4 : W4.heap.size = w3.heap.size + 1 := by rw [← hW4]; simp
    have hb24 : Below w2.heap.size w2 W4 := hb3.trans (hb4.mono hb3.size)
    have HA4 := Lib.hid (HA2.out.next hb24)
    have HPG4 := Lib.hid (HPG.out.below hb24)
    have HTM4 : Hid (TreeM W4 (fun k => w2.heap.size ≤ k) tr nd) := Lib.hid (htm.below hb4)
    have HX4 := Lib.hid hx4
    have HW4 := Lib.hid hW4
    have CA4 := Lib.hid (CAW.out W4 HPG4.out.dz)
    have HFI := Lib.hid (And.intro hsh hfi.1)
    obtain ⟨b3, hb3e⟩ : ∃ b3, w3.heap.size = b3 := ⟨_, rfl⟩
    rw [hb3e] at HX4 hz4
    have HZ4 := Lib.hid hz4
    clear hb3 hb4 hx4 hb24 htm hsh hfi hz4 hW4 CP CAW HA2 HPG
    unfold RNd.val
    go_upto_region 4 with fail
    rw [HW4.out]
    try rw [hb3e]
    clear HW4 hb3e
    go_wp2_with fail
    refine CA4.out.mono ?_
    rintro e w5 ⟨rfl, hb5⟩
    have HA5 := Lib.hid (HA4.out.next hb5)
    have HPG5 := Lib.hid (HPG4.out.below hb5)
    have HTM5 := Lib.hid (HTM4.out.below hb5)
    have HX5 := Lib.hid ((hb5.block b3 (by have := HZ4.out; omega)).trans HX4.out)
    clear hb5 CA4 HA4 HPG4 HTM4 HX4
    have x0 : w5.cell? ⟨b3, 0, none⟩ = some (.int .i64 nd.op) := rg_cell HX5.out
    have x1 : w5.cell? ⟨b3, 1, none⟩ = some (.string nd.set) := rg_cell HX5.out
    have x2 : w5.cell? ⟨b3, 2, none⟩ = some (.slice nd.kp nd.kn nd.kc) := rg_cell HX5.out
    have CF : Hid (Calls Tryd.prog 18 #[.agg #[.int .i64 nd.op, .string nd.set, .slice nd.kp nd.kn nd.kc], .string t] w5 (AlP w5 t tr)) := Lib.hid (rAll_any t (by omega) hsz HFI.out.1 HFI.out.2 HTM5.out)
    go_wp2_with fail
    refine CF.out.mono ?_
    rintro e w6 ⟨gw, cw, L, rfl, hL, hrow, hb6⟩
    have HL := Lib.hid hL
    have HA6 := Lib.hid (HA5.out.next hb6)
    have HPG6 := Lib.hid (HPG5.out.below hb6)
    have HROW := Lib.hid (show RowP2 w6 0 gw cw L from rg_own_less hrow (Nat.zero_le _))
    clear hb6 hrow hL CF HA5 HPG5 HTM5 HX5 x0 x1 x2
    obtain ⟨W7, hW7⟩ : ∃ W7, (w6.alloc (.cells #[.slice (some ⟨gw, 0, none⟩) L.length cw] 39)).alloc (.cells #[.int .i64 0] 3) = W7 := ⟨_, rfl⟩
    have hb7 : Below w6.heap.size w6 W7 := by rw [← hW7]; exact ((Below.refl _ _).alloc (Nat.le_refl _) _).alloc (by simp) _
    have hz7 : W7.heap.size = w6.heap.size + 2 := by rw [← hW7]; simp
    have hx10 : Bo W7 w6.heap.size 39 (.slice (some ⟨gw, 0, none⟩) L.length cw) := by rw [← hW7]; exact (Bo.new w6 _ _).next ((Below.refl _ _).alloc (Nat.le_refl _) _)
    have hx11 : Bo W7 (w6.heap.size + 1) 3 (.int .i64 0) := by
      rw [← hW7]
      have := Bo.new (w6.alloc (.cells #[.slice (some ⟨gw, 0, none⟩) L.length cw] 39)) 3 (.int .i64 0)
      rwa [World.size_alloc] at this
    have hdl := HPG6.out.lt
    have hzl := HPG6.out.dz.lt
    have HI7 : Hid (AlI w most w6.heap.size gw cw L [] W7) := Lib.hid ⟨HA6.out.next hb7, hx10, hx11, HROW.out.next hb7⟩
    have hwb : w.heap.size + 2 ≤ w6.heap.size := by have := HA6.out.2.2.lt; omega
    have CALL := Lib.hid (mAll_call t (by omega) (HPG6.out.next hb7))
    have HW7 := Lib.hid hW7
    generalize hB : w6.heap.size = B at *
    clear hW7 hb7 hx10 hx11 HA6 HPG6 HROW
    go_upto_region 8 with fail
    try simp only [hB]
    rw [HW7.out]
    clear HW7
    go_wp2_with fail
    refine CALL.out.mono ?_
    rintro e w8 ⟨bs, g, rfl, hbs, hgs, hkp, hb8⟩
    have HKP := Lib.hid hkp
    have HI8 := Lib.hid (HI7.out.next hb8)
    have hz8 := hb8.size
    clear hkp hb8 CALL HI7
    dsimp only
    go_wp2_with fail
    refine (wpIn_wide (n := 6)).1 ?_
    gi_wp2_with fail
    have hb9 : ∀ r, Below w8.heap.size w8 ((w8.alloc (.deferred (some []))).alloc (.loop r)) := fun r => ((Below.refl _ _).alloc (Nat.le_refl _) _).alloc (by simp) _
    have HNE : Hid (∀ k, k = bs ∨ k = d.p ∨ k = d.t ∨ k = d.a ∨ k = d.h ∨ k = d.f ∨ k = d.l ∨ k = g ∨ k = (0 : Nat) → k ≠ B ∧ k ≠ B + 1) := Lib.hid fun k hk => by
      obtain ⟨l1, l2, l3, l4, l5, l6⟩ := hdl
      rcases hk with rfl | rfl | rfl | rfl | rfl | rfl | rfl | rfl | rfl <;> exact ⟨by omega, by omega⟩
    refine wpIn_rangeR (F := Fence.wide) rfl (by omega) (gf := 27) (lb := #[.pointer (some ⟨bs, 0, none⟩)]) rfl trivial (enters_of Tryd.func27 (by kernel_rfl) rfl)
      (mAll_seq (s := t) (t := tr) (d := d) (g := g) (by omega) bs _ (by omega)) (fun _ => rfl) (fun W r o h hl => KpS.put h hl o)
      (fun pre W => AlI w most B gw cw L pre W) (fun cd _ W => cd = .ret ∧ Below w.heap.size w W ∧ Bo W (w.heap.size + 1) 4 (.bool true)) (fun pre W W' h hb => h.next hb) ?hI ?hIx ?hK0 ?h0 ?a1 ?assign ?body ?done ?stop
    case hI =>
      rintro pre W r o h hlr
      exact h.put (by omega) hlr o
    case hIx =>
      rintro cd pre W r o ⟨h1, h2, h3⟩ hlr
      exact ⟨h1, below_puto h2 (by omega) o, h3.put (h3.neLoop hlr) o⟩
    case hK0 =>
      intro r
      exact HKP.out.next (hb9 r)
    case h0 =>
      intro r
      exact HI8.out.next (hb9 r)
    case assign =>
      intro l' x W K hK
      simp only [encP]
      gi_wp2
      exact hK
    case stop =>
      rintro D cd pre W _ ⟨rfl, h1, h2⟩ hkp rfl hD
      have hDl := (Array.getElem?_eq_some_iff.1 hD).1
      have HRES : Hid ((W.putObj w8.heap.size (.deferred none)).cell? ⟨w.heap.size + 1, 0, none⟩ = some (.bool true)) := Lib.hid (rg_cell (h2.put (by omega) _))
      have HFIN : Hid (Below w.heap.size w (W.putObj w8.heap.size (.deferred none))) := Lib.hid (below_puto h1 (by omega) _)
      have HD := Lib.hid hD
      clear h1 h2 hkp hD HNE HKP HI8
      gi_wp2_with fail
      refine ⟨by simp, .inl ⟨_, _, rfl, run_takeDeferred HD.out, ?_⟩⟩
      refine ⟨.bool true, ?_, rfl, HFIN.out⟩
      simp [results, Tryd.results4, go_sem, HRES.out]
    case body =>
      rintro l' pre ⟨i, j⟩ W hi hkp ⟨r, hlr⟩ hD hlen hsp
      have hpre := HL.out.pre hsp
      have hat : L[pre.length]? = some (i, j) := by
        obtain ⟨u, hu⟩ := hpre
        rw [← hu, List.append_assoc, List.getElem?_append_right (Nat.le_refl _), Nat.sub_self]; rfl
      have hpl : pre.length < L.length := (List.getElem?_eq_some_iff.1 hat).1
      have hDl : w8.heap.size + 1 < W.heap.size := (Array.getElem?_eq_some_iff.1 hlr).1
      obtain ⟨r1, r2⟩ := hi.2.2.2.cell hat
      have c0 : W.cell? ⟨w.heap.size, 0, none⟩ = some (.int .i64 most) := rg_cell hi.1.2.1
      have c1 : W.cell? ⟨B, 0, none⟩ = some (.slice (some ⟨gw, 0, none⟩) L.length cw) := rg_cell hi.2.1
      have c2 : W.cell? ⟨B + 1, 0, none⟩ = some (.int .i64 (pre.length : Int)) := rg_cell hi.2.2.1
      have k2 : W.frozen? ⟨B + 1, 0, none⟩ = false := rg_frozen hi.2.2.1
      have c3 : W.cell? ⟨w.heap.size + 1, 0, none⟩ = some (.bool false) := rg_cell hi.1.2.2
      have k3 : W.frozen? ⟨w.heap.size + 1, 0, none⟩ = false := rg_frozen hi.1.2.2
      have hNp : (pre.length : Int) ≤ 42 := by omega
      by_cases hm : 0 ≤ most ∧ most ≤ (pre.length : Int)
      · obtain ⟨hm0, hm1⟩ := hm
        have HTW : Hid (Two w8.heap.size W (W.setCell ⟨w.heap.size + 1, 0, none⟩ (.bool true))) := Lib.hid ⟨Below.heap_setCell _ ⟨w.heap.size + 1, 0, none⟩ _ _ (by show w8.heap.size ≠ w.heap.size + 1; omega), Below.heap_setCell _ ⟨w.heap.size + 1, 0, none⟩ _ _ (by show w8.heap.size + 1 ≠ w.heap.size + 1; omega)⟩
        have HIX : Hid (Below w.heap.size w (W.setCell ⟨w.heap.size + 1, 0, none⟩ (.bool true)) ∧ Bo (W.setCell ⟨w.heap.size + 1, 0, none⟩ (.bool true)) (w.heap.size + 1) 4 (.bool true)) := Lib.hid ⟨hi.1.1.setCell (by show w.heap.size ≤ w.heap.size + 1; omega) _, hi.1.2.2.set _⟩
        have HKS : Hid (KpS bs d tr t g (W.setCell ⟨w.heap.size + 1, 0, none⟩ (.bool true))) := Lib.hid (kpo_set hkp (fun k hk e => by
          obtain ⟨n1, n2, n3, n4, n5, n6, n7⟩ := pg_bool hkp.2.pg hi.1.2.2
          rcases hk with rfl | rfl | rfl | rfl | rfl | rfl | rfl | rfl | rfl
          · omega
          · exact n1 e.symm
          · exact n2 e.symm
          · exact n3 e.symm
          · exact n4 e.symm
          · exact n5 e.symm
          · exact n6 e.symm
          · omega
          · exact n7 e.symm) _)
        clear hi hkp hlr hD hlen hsp hpre hat r1 r2
        gi_wp2_with fail
        exact ⟨HTW.out, HKS.out, rfl, HIX.out⟩
      · have HST := Lib.hid (hi.step hwb (i, j))
        have HKS : Hid (KpS bs d tr t g (W.setCell ⟨B + 1, 0, none⟩ (.int .i64 ((pre.length : Int) + 1)))) := Lib.hid (kpo_set hkp (fun k hk => (HNE.out k hk).2) _)
        have HTW : Hid (Two w8.heap.size W (W.setCell ⟨B + 1, 0, none⟩ (.int .i64 ((pre.length : Int) + 1)))) := Lib.hid
          ⟨Below.heap_setCell _ ⟨B + 1, 0, none⟩ _ _ (by show w8.heap.size ≠ B + 1; omega), Below.heap_setCell _ ⟨B + 1, 0, none⟩ _ _ (by show w8.heap.size + 1 ≠ B + 1; omega)⟩
        have hcase : ¬ 0 ≤ most ∨ (0 ≤ most ∧ ¬ most ≤ (pre.length : Int)) := by
          by_cases h : 0 ≤ most
          · exact .inr ⟨h, fun h2 => hm ⟨h, h2⟩⟩
          · exact .inl h
        have hpli : ¬ (L.length : Int) ≤ (pre.length : Int) := by omega
        clear hi hkp hlr hD hlen hsp hpre hat HNE hm
        rcases hcase with h | ⟨h, h'⟩
        all_goals
          gi_wp2_with fail
          exact ⟨HTW.out, HKS.out, HST.out⟩
    case done =>
      rintro D xs W hS hI hkp rfl hD
      obtain rfl := HL.out.eq hS
      have hDl := (Array.getElem?_eq_some_iff.1 hD).1
      have c1 : W.cell? ⟨B, 0, none⟩ = some (.slice (some ⟨gw, 0, none⟩) xs.length cw) := rg_cell hI.2.1
      have c2 : W.cell? ⟨B + 1, 0, none⟩ = some (.int .i64 (xs.length : Int)) := rg_cell hI.2.2.1
      have c3 : W.cell? ⟨w.heap.size + 1, 0, none⟩ = some (.bool false) := rg_cell hI.1.2.2
      have k3 : W.frozen? ⟨w.heap.size + 1, 0, none⟩ = false := rg_frozen hI.1.2.2
      have hneD : w8.heap.size ≠ w.heap.size + 1 := by omega
      have hee : (((xs.length : Nat) : Int) == ((xs.length : Nat) : Int)) = true := by simp
      have HD2 : Hid ((W.setCell ⟨w.heap.size + 1, 0, none⟩ (.bool true)).heap[w8.heap.size]? = some (.deferred (some []))) := Lib.hid ((Below.heap_setCell W ⟨w.heap.size + 1, 0, none⟩ _ _ hneD).trans hD)
      have HRES : Hid (((W.setCell ⟨w.heap.size + 1, 0, none⟩ (.bool true)).putObj w8.heap.size (.deferred none)).cell? ⟨w.heap.size + 1, 0, none⟩ = some (.bool true)) := Lib.hid (rg_cell ((hI.1.2.2.set (.bool true)).put hneD.symm _))
      have HFIN : Hid (Below w.heap.size w ((W.setCell ⟨w.heap.size + 1, 0, none⟩ (.bool true)).putObj w8.heap.size (.deferred none))) := Lib.hid (below_puto (hI.1.1.setCell (by show w.heap.size ≤ w.heap.size + 1; omega) _) (by omega) _)
      clear hD hS hI hkp HNE HKP HI8
      go_wp2_with fail
      refine ⟨by simp, .inl ⟨_, _, rfl, run_takeDeferred HD2.out, ?_⟩⟩
      refine ⟨.bool true, ?_, rfl, HFIN.out⟩
      simp [results, Tryd.results4, go_sem, HRES.out]
  · have HA2 := Lib.hid (HA0.out.next hb2)
    have HDZ2 : Hid (Dz w2) := Lib.hid (HDZ.out.next HA2.out.1)
    have HT := Lib.hid ht
    clear hb2 ht CO HA0
    go_wp2_with fail
    refine (CP.out _).mono ?_
    rintro e w3 ⟨⟨nd, p, er, rfl, hor⟩, hb3⟩
    have hor : p = ((s.size - n : Nat) : Int) ∧ er = (k : Int) := by
      rcases hor with ⟨h, _⟩ | ⟨_, t', r', h1, h2, h3, h4⟩ | ⟨_, n0, k0, h1, _, _, h4, h5⟩
      · omega
      · rw [HT.out] at h1; cases h1
      · rw [HT.out] at h1
        cases h1
        exact ⟨h5, h4⟩
    obtain ⟨rfl, rfl⟩ := hor
    obtain ⟨W4, hW4⟩ : ∃ W4, w3.alloc (.cells #[.int .i64 nd.op, .string nd.set, .slice nd.kp nd.kn nd.kc] 30) = W4 := ⟨_, rfl⟩
    have hb4 : Below w3.heap.size w3 W4 := by rw [← hW4]; exact (Below.refl _ _).alloc (Nat.le_refl _) _
    have hb24 : Below w2.heap.size w2 W4 := hb3.trans (hb4.mono hb3.size)
    have HA4 := Lib.hid (HA2.out.next hb24)
    have HDZ4 : Hid (Dz W4) := Lib.hid (HDZ2.out.next hb24)
    have CA4 := Lib.hid (CAW.out W4 HDZ4.out)
    have HW4 := Lib.hid hW4
    clear hb3 hb4 hb24 hW4 CP HA2 HDZ2
    unfold RNd.val
    go_upto_region 4 with fail
    rw [HW4.out]
    clear HW4
    have hk1 : ((k : Int) != 0) = true := by rcases hk with rfl | rfl <;> rfl
    have HK := Lib.hid hk
    clear hk
    generalize ((s.size - n : Nat) : Int) = q at *
    generalize (k : Int) = kk at *
    go_wp2_with fail
    refine CA4.out.mono ?_
    rintro e w5 ⟨rfl, hb5⟩
    have HA5 := Lib.hid (HA4.out.next hb5)
    have CA5 := Lib.hid (CAW.out w5 (HDZ4.out.next hb5))
    clear hb5 CA4 HA4
    go_wp2_with fail
    refine CA5.out.mono ?_
    rintro e w6 ⟨rfl, hb6⟩
    have HA6 := Lib.hid (HA5.out.next hb6)
    have z4 : w6.cell? ⟨w.heap.size + 1, 0, none⟩ = some (.bool false) := rg_cell HA6.out.2.2
    have f4 : w6.frozen? ⟨w.heap.size + 1, 0, none⟩ = false := rg_frozen HA6.out.2.2
    have HFIN : Hid (Below w.heap.size w (w6.setCell ⟨w.heap.size + 1, 0, none⟩ (.bool true))) := Lib.hid (HA6.out.1.setCell (by show w.heap.size ≤ w.heap.size + 1; omega) _)
    have HRES : Hid ((w6.setCell ⟨w.heap.size + 1, 0, none⟩ (.bool true)).cell? ⟨w.heap.size + 1, 0, none⟩ = some (.bool true)) := Lib.hid (rg_cell (HA6.out.2.2.set _))
    clear hb6 CA5 HA5
    go_wp2_with fail
    refine ⟨.bool true, ?_, rfl, HFIN.out⟩
    simp [results, Tryd.results4, go_sem, HRES.out]
end Go.Proofs.YtjjejcgpeefclaaDoor
