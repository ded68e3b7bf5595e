/-
  CONTRACT of the document's own search (scriberef10): reckon, by the kinds of nodes.
-/
import Derived.Test.YtjjejcgpeefclaaDoorMfE
namespace Go.Proofs.YtjjejcgpeefclaaDoor
open Go.RowKit

/-- What comes from the first i places of a list. -/
def MP (R : Nat → Nat → Prop) (E : List Nat) (i y : Nat) : Prop := ∃ m x, m < i ∧ E[m]? = some x ∧ R x y
theorem MP.zero {R : Nat → Nat → Prop} {E : List Nat} {n : Nat} : ups (MP R E 0) n = [] := ups_zero fun y _ ⟨m, _, hm, _⟩ => by omega
theorem MP.more {R : Nat → Nat → Prop} {E : List Nat} {i j n : Nat} (he : E[i]? = some j) : ups (fun y => MP R E i y ∨ R j y) n = ups (MP R E (i + 1)) n := by
  refine ups_congr (fun y => ⟨?_, ?_⟩) n
  · rintro (⟨m, x, h1, h2, h3⟩ | h)
    · exact ⟨m, x, by omega, h2, h3⟩
    · exact ⟨i, j, by omega, he, h⟩
  · rintro ⟨m, x, h1, h2, h3⟩
    by_cases e : m = i
    · subst e
      rw [he] at h2; cases h2
      exact .inr h3
    · exact .inl ⟨m, x, by omega, h2, h3⟩
theorem MP.all {R P : Nat → Nat → Prop} (hR : ∀ i j, R i j → i ≤ j) {a n : Nat} : ups (MP R (ups (P a) (n + 1)) (ups (P a) (n + 1)).length) (n + 1) = ups (fun y => ∃ x, P a x ∧ R x y) (n + 1) := by
  refine ups_congr2 fun y hy => ?_
  constructor
  · rintro ⟨m, x, h1, h2, h3⟩
    exact ⟨x, (ups_at_mem.1 ⟨m, h2⟩).2, h3⟩
  · rintro ⟨x, h1, h2⟩
    have := hR _ _ h2
    obtain ⟨m, hm⟩ := ups_at_mem.2 (show x < n + 1 ∧ P a x from ⟨by omega, h1⟩)
    exact ⟨m, x, (List.getElem?_eq_some_iff.1 hm).1, hm, h2⟩
theorem CatL.le2 {g : W4 → Nat → Prop} {n : Nat} (ts : List RT) (i j : Nat) (h : CatL g n ts i j) : i ≤ j := CatL.le _ _ ts i j h
theorem Lead.le2 {g : W4 → Nat → Prop} {n : Nat} (t : RT) (i j : Nat) (h : Lead g n t i j) : i ≤ j := Lead.le _ _ t i j h
/-- The box of a part. -/
def BoxP (w : World) (b : Nat) (op : Int) (S : ByteArray) (kp : Option Addr) (kn kc : Nat) : Prop := w.heap[b]? = some (.cells #[.int .i64 op, .string S, .slice kp kn kc] 121 (0, 0))
theorem BoxP.c0 {w : World} {b : Nat} {op : Int} {S : ByteArray} {kp : Option Addr} {kn kc : Nat} (h : BoxP w b op S kp kn kc) : w.cell? ⟨b, 0, none⟩ = some (.int .i64 op) ∧ w.cell? ⟨b, 1, none⟩ = some (.string S) ∧ w.cell? ⟨b, 2, none⟩ = some (.slice kp kn kc) := ⟨rg_cell h, rg_cell h, rg_cell h⟩
theorem BoxP.next {w w' : World} {b : Nat} {op : Int} {S : ByteArray} {kp : Option Addr} {kn kc : Nat} (h : BoxP w b op S kp kn kc) (hb : w'.heap[b]? = w.heap[b]?) : BoxP w' b op S kp kn kc := hb.trans h
theorem lstE_mk {t : RT} {op : Nat} (hop : t.op = op) : t = .mk op t.set t.kids := by cases t; cases hop; rfl
theorem lstE_two {d : Td} {op : Nat} {st : W4} {ks : List RT} (h : op = 2) (i j : Nat) : Lead (gS d.s) d.n (.mk op st ks) i j ↔ CatL (gS d.s) d.n ks i j := by
  subst h
  conv => lhs; unfold Lead
  rw [if_neg (by decide), if_neg (by decide), if_neg (by decide), if_neg (by decide), if_neg (by decide), if_neg (by decide), if_neg (by decide)]
theorem lead_seven {g : W4 → Nat → Prop} {n : Nat} {st : W4} {ks : List RT} {i j : Nat} : Lead g n (.mk 7 st ks) i j ↔ i = j ∧ i = 0 := by
  conv => lhs; unfold Lead
  rw [if_neg (by decide), if_neg (by decide), if_pos rfl]
theorem lead_eight {g : W4 → Nat → Prop} {n : Nat} {st : W4} {ks : List RT} {i j : Nat} : Lead g n (.mk 8 st ks) i j ↔ i = j ∧ i = n := by
  conv => lhs; unfold Lead
  rw [if_neg (by decide), if_neg (by decide), if_neg (by decide), if_pos rfl]
theorem lead_byte {g : W4 → Nat → Prop} {n : Nat} {st : W4} {ks : List RT} {i j : Nat} : Lead g n (.mk 1 st ks) i j ↔ g st i ∧ i < n ∧ j = i + 1 := by
  conv => lhs; unfold Lead
  rw [if_pos rfl]
theorem hasC_iff {l : List UInt8} {c : UInt8} : hasC l c.toNat = true ↔ ∃ i : Nat, l[i]? = some c := by
  unfold hasC
  rw [List.any_eq_true]
  constructor
  · rintro ⟨x, hx, he⟩
    obtain ⟨i, hi⟩ := List.mem_iff_getElem?.1 hx
    have h1 : x.toNat = c.toNat := by simpa using he
    exact ⟨i, by rw [hi]; exact congrArg some (UInt8.toNat_inj.1 h1)⟩
  · rintro ⟨i, hi⟩
    exact ⟨c, List.mem_of_getElem? hi, by simp⟩
theorem set_has {d : Td} {st : W4} {S : ByteArray} (hS : SetIs 1 st S) {a : Nat} (ha : a < d.s.size) : gS d.s st a ↔ ∃ (i : Nat) (h : i < S.size), S[i] = d.s[a] := by
  obtain ⟨-, hS⟩ := hS
  obtain ⟨f, h1, h2, h3⟩ := hS rfl
  unfold gS hasP
  rw [exists_prop_of_true ha, h1.has (by have := d.s[a].toNat_lt; omega), ← h3 _ (by have := d.s[a].toNat_lt; omega), hasC_iff]
  constructor
  · rintro ⟨i, hi⟩
    have hl : i < S.size := by
      have := (List.getElem?_eq_some_iff.1 hi).1
      simpa using this
    refine ⟨i, hl, ?_⟩
    rw [List.getElem?_eq_getElem (by simpa using hl)] at hi
    have := Option.some.inj hi
    rw [← this]; rfl
  · rintro ⟨i, hl, hi⟩
    refine ⟨i, ?_⟩
    rw [List.getElem?_eq_getElem (by simpa using hl), ← hi]; rfl
set_option maxHeartbeats 4000000 in
set_option maxRecDepth 100000 in
theorem reck_0 {d : Td} (hd : d.ok) {k : Nat} {t : RT} (hk : (pre d.T)[k]? = some t) (hop : t.op = 0) (hks : t.kids = []) : ReckC d k t := by
  intro w a ha hs hy
  have hkl : k < d.N := Td.klt hk
  have hn := hd.n
  obtain ⟨p0, p1, -, -, -, -⟩ := hs.row hk
  obtain ⟨S, kp, kc, r1, r2, r3, r4, r5⟩ := hs.part k t hk
  rw [hop] at r1 r4
  have r1 : w.cell? ⟨d.bl, k * 3, none⟩ = some (.int .i64 (0)) := r1
  obtain ⟨kn, hkn⟩ : ∃ kn, t.kids.length = kn := ⟨_, rfl⟩
  rw [hkn] at r3
  obtain ⟨W1, hW1⟩ : ∃ W1, w.alloc (.cells #[.int .i64 (0), .string S, .slice kp kn kc] 121) = W1 := ⟨_, rfl⟩
  have hb1 : Below w.heap.size w W1 := by rw [← hW1]; exact (Below.refl _ _).alloc (Nat.le_refl _) _
  have hz1 : W1.heap.size = w.heap.size + 1 := by rw [← hW1]; simp
  obtain ⟨W2, hW2⟩ : ∃ W2, W1.alloc (.cells #[] 3) = W2 := ⟨_, rfl⟩
  have hb2 : Below w.heap.size w W2 := by rw [← hW2]; exact hb1.alloc (by omega) _
  have hbx : BoxP W2 w.heap.size (0) S kp kn kc := by rw [← hW2, ← hW1]; exact (Below.heap_alloc _ _ _ (by simp)).trans (mt_heap_new _ _)
  have hro : RowI W2 w.heap.size (w.heap.size + 1) 0 [] := by rw [← hW2, ← hz1]; exact RowI.new W1 [] _ (by omega) (by simp)
  have hz2 : W2.heap.size = w.heap.size + 2 := by rw [← hW2]; simp; omega
  have hc2 : Chg d.F w W2 := Chg.of_below hb2 (Nat.le_refl _)
  have HOB : Hid (Ob w W2 d (w.heap.size + 1) 0 []) := Lib.hid (Ob.start hy (Chg.refl _ _) hro hb2)
  have hnF : ¬ d.F w.heap.size := fun h => by have := hy.flt h; omega
  have HNF := Lib.hid hnF
  have HBX := Lib.hid hbx
  have HRO := Lib.hid hro
  have HB2 := Lib.hid hb2
  have HS := Lib.hid hs
  have HS2 := Lib.hid (hs.chg hc2)
  have HY := Lib.hid hy
  have HK := Lib.hid hk
  have HKN := Lib.hid hkn
  have HR4 := Lib.hid r4
  have HR5 := Lib.hid r5
  have HW2 : Hid ((w.alloc (.cells #[.int .i64 (0), .string S, .slice kp kn kc] 121)).alloc (.cells #[] 3) = W2) := Lib.hid (by rw [hW1]; exact hW2)
  obtain ⟨x0, x1, x2⟩ := hbx.c0
  have b0 : W2.cell? ⟨d.p, 0, none⟩ = some (.string d.s) := cell_kept p0 (hc2.block _ hs.plt hs.fp)
  have HZ2 := Lib.hid hz2
  clear hW1 hb1 hW2 hb2 hz1 hz2 hbx hro hc2 hnF hs hy hk r4 r5 hkn p0
  go_enter Tryd.func62, Tryd.ntmps62
  go_upto_region 3 with fail
  rw [HW2.out]
  clear HW2 p1 r1 r2 r3
  have HT : Hid (t = .mk 0 t.set []) := Lib.hid (by have := lstE_mk hop; rw [hks] at this; exact this)
  clear hop hks
  obtain ⟨i0, hi, hz0, hz1, hz2'⟩ := info_parts Tryd.infoI
  have hWl : w.heap.size ≤ W2.heap.size := HB2.out.size
  have HRW : Hid (W2.ownsRow w.heap.size 3 1 (.slice (some ⟨w.heap.size + 1, 0, none⟩) 0 0) 0 []) := Lib.hid HRO.out
  go_wp2_with (at_builtin; refine wpList_append_own_at _ rfl (.tmp 31) (.tmp 33) 101 rfl w.heap.size 3 i0 (.int .i64 0) 1 8 Tryd.underlying101 hi hz0 hz1 hz2' rfl (by decide) (.slice (some ⟨w.heap.size + 1, 0, none⟩) 0 0) 0 [] rfl (HRW.out.alloc _) ⟨W2.heap.size, 0, none⟩ 1 1 [.int .i64 (a : Int)] rfl rfl ?p1 ?p2 ?p3 ?p4 ?p5 ?_)
  try (case p1 => exact cell_one_new _ _ _)
  try (case p2 => simp [Value.oneCell'])
  try (case p3 => unfold maxLen; omega)
  try (case p4 => omega)
  try (case p5 => simp; have := HZ2.out; omega)
  intro v2 w9 hown9 hgrow9 _ _
  obtain ⟨g9, c9, hv9, -⟩ := rg_own_succ hown9
  have hv9 : v2 = .slice (some ⟨g9, 0, none⟩) 1 c9 := hv9
  subst hv9
  have hr9 : RowI w9 w.heap.size g9 c9 [a] := by unfold RowI; exact hown9
  have hb9 : Below w.heap.size w w9 := (HB2.out.alloc hWl _).grown hgrow9 (by simp; have := HZ2.out; omega) (fun j hj => by
    have : w.heap.size + 1 = j := by simpa [Value.ownBlock] using hj
    omega)
  have hbe9 : ∀ j, j < w.heap.size + 1 → w9.heap[j]? = W2.heap[j]? := fun j hj => by
    rw [← Below.heap_alloc W2 (.cells #[.int .i64 (a : Int)] 3) j (by have := HZ2.out; omega)]
    exact hgrow9.block j (by simp; have := HZ2.out; omega) (fun e => by
      have : j = w.heap.size + 1 := by simpa [Value.ownBlock] using e
      omega)
  have HOB9 : Hid (Ob w w9 d g9 c9 [a]) := Lib.hid (Ob.start HY.out (Chg.refl _ _) hr9 hb9)
  have HB9 := Lib.hid hb9
  have HBX9 : Hid (BoxP w9 w.heap.size _ S kp kn kc) := Lib.hid (HBX.out.next (hbe9 _ (by omega)))
  clear hown9 hgrow9 hr9 hb9 hbe9
  have HE : Hid (lstE d t a = [a]) := Lib.hid (by
    rw [HT.out]; unfold lstE
    rw [ups_congr (Q := fun y => a = y) fun y => lead_none0]
    exact ups_one ha)
  go_wp2_with fail
  go_ret
  exact ⟨_, _, by rw [HE.out]; rfl, HOB9.out.as HE.out.symm⟩
set_option maxHeartbeats 4000000 in
set_option maxRecDepth 100000 in
theorem reck_7 {d : Td} (hd : d.ok) {k : Nat} {t : RT} (hk : (pre d.T)[k]? = some t) (hop : t.op = 7) : ReckC d k t := by
  intro w a ha hs hy
  have hkl : k < d.N := Td.klt hk
  have hn := hd.n
  obtain ⟨p0, p1, -, -, -, -⟩ := hs.row hk
  obtain ⟨S, kp, kc, r1, r2, r3, r4, r5⟩ := hs.part k t hk
  rw [hop] at r1 r4
  have r1 : w.cell? ⟨d.bl, k * 3, none⟩ = some (.int .i64 (7)) := r1
  obtain ⟨kn, hkn⟩ : ∃ kn, t.kids.length = kn := ⟨_, rfl⟩
  rw [hkn] at r3
  obtain ⟨W1, hW1⟩ : ∃ W1, w.alloc (.cells #[.int .i64 (7), .string S, .slice kp kn kc] 121) = W1 := ⟨_, rfl⟩
  have hb1 : Below w.heap.size w W1 := by rw [← hW1]; exact (Below.refl _ _).alloc (Nat.le_refl _) _
  have hz1 : W1.heap.size = w.heap.size + 1 := by rw [← hW1]; simp
  obtain ⟨W2, hW2⟩ : ∃ W2, W1.alloc (.cells #[] 3) = W2 := ⟨_, rfl⟩
  have hb2 : Below w.heap.size w W2 := by rw [← hW2]; exact hb1.alloc (by omega) _
  have hbx : BoxP W2 w.heap.size (7) S kp kn kc := by rw [← hW2, ← hW1]; exact (Below.heap_alloc _ _ _ (by simp)).trans (mt_heap_new _ _)
  have hro : RowI W2 w.heap.size (w.heap.size + 1) 0 [] := by rw [← hW2, ← hz1]; exact RowI.new W1 [] _ (by omega) (by simp)
  have hz2 : W2.heap.size = w.heap.size + 2 := by rw [← hW2]; simp; omega
  have hc2 : Chg d.F w W2 := Chg.of_below hb2 (Nat.le_refl _)
  have HOB : Hid (Ob w W2 d (w.heap.size + 1) 0 []) := Lib.hid (Ob.start hy (Chg.refl _ _) hro hb2)
  have hnF : ¬ d.F w.heap.size := fun h => by have := hy.flt h; omega
  have HNF := Lib.hid hnF
  have HBX := Lib.hid hbx
  have HRO := Lib.hid hro
  have HB2 := Lib.hid hb2
  have HS := Lib.hid hs
  have HS2 := Lib.hid (hs.chg hc2)
  have HY := Lib.hid hy
  have HK := Lib.hid hk
  have HKN := Lib.hid hkn
  have HR4 := Lib.hid r4
  have HR5 := Lib.hid r5
  have HW2 : Hid ((w.alloc (.cells #[.int .i64 (7), .string S, .slice kp kn kc] 121)).alloc (.cells #[] 3) = W2) := Lib.hid (by rw [hW1]; exact hW2)
  obtain ⟨x0, x1, x2⟩ := hbx.c0
  have b0 : W2.cell? ⟨d.p, 0, none⟩ = some (.string d.s) := cell_kept p0 (hc2.block _ hs.plt hs.fp)
  have HZ2 := Lib.hid hz2
  clear hW1 hb1 hW2 hb2 hz1 hz2 hbx hro hc2 hnF hs hy hk r4 r5 hkn p0
  go_enter Tryd.func62, Tryd.ntmps62
  go_upto_region 3 with fail
  rw [HW2.out]
  clear HW2 p1 r1 r2 r3
  have HT : Hid (t = .mk 7 t.set t.kids) := Lib.hid (lstE_mk hop)
  clear hop
  by_cases hc : a = 0
  · have hc1 : ((a : Int) == 0) = true := by subst hc; rfl
    have HC := Lib.hid hc
    clear hc
    obtain ⟨i0, hi, hz0, hz1, hz2'⟩ := info_parts Tryd.infoI
    have hWl : w.heap.size ≤ W2.heap.size := HB2.out.size
    have HRW : Hid (W2.ownsRow w.heap.size 3 1 (.slice (some ⟨w.heap.size + 1, 0, none⟩) 0 0) 0 []) := Lib.hid HRO.out
    go_wp2_with (at_builtin; refine wpList_append_own_at _ rfl (.tmp 155) (.tmp 157) 101 rfl w.heap.size 3 i0 (.int .i64 0) 1 8 Tryd.underlying101 hi hz0 hz1 hz2' rfl (by decide) (.slice (some ⟨w.heap.size + 1, 0, none⟩) 0 0) 0 [] rfl (HRW.out.alloc _) ⟨W2.heap.size, 0, none⟩ 1 1 [.int .i64 (a : Int)] rfl rfl ?p1 ?p2 ?p3 ?p4 ?p5 ?_)
    try (case p1 => exact cell_one_new _ _ _)
    try (case p2 => simp [Value.oneCell'])
    try (case p3 => unfold maxLen; omega)
    try (case p4 => omega)
    try (case p5 => simp; have := HZ2.out; omega)
    intro v2 w9 hown9 hgrow9 _ _
    obtain ⟨g9, c9, hv9, -⟩ := rg_own_succ hown9
    have hv9 : v2 = .slice (some ⟨g9, 0, none⟩) 1 c9 := hv9
    subst hv9
    have hr9 : RowI w9 w.heap.size g9 c9 [a] := by unfold RowI; exact hown9
    have hb9 : Below w.heap.size w w9 := (HB2.out.alloc hWl _).grown hgrow9 (by simp; have := HZ2.out; omega) (fun j hj => by
      have : w.heap.size + 1 = j := by simpa [Value.ownBlock] using hj
      omega)
    have hbe9 : ∀ j, j < w.heap.size + 1 → w9.heap[j]? = W2.heap[j]? := fun j hj => by
      rw [← Below.heap_alloc W2 (.cells #[.int .i64 (a : Int)] 3) j (by have := HZ2.out; omega)]
      exact hgrow9.block j (by simp; have := HZ2.out; omega) (fun e => by
        have : j = w.heap.size + 1 := by simpa [Value.ownBlock] using e
        omega)
    have HOB9 : Hid (Ob w w9 d g9 c9 [a]) := Lib.hid (Ob.start HY.out (Chg.refl _ _) hr9 hb9)
    have HB9 := Lib.hid hb9
    have HBX9 : Hid (BoxP w9 w.heap.size _ S kp kn kc) := Lib.hid (HBX.out.next (hbe9 _ (by omega)))
    clear hown9 hgrow9 hr9 hb9 hbe9
    have HE : Hid (lstE d t a = [a]) := Lib.hid (by
      rw [HT.out]; unfold lstE
      rw [ups_congr (Q := fun y => a = y) fun y => by rw [lead_seven]; exact ⟨fun h => h.1, fun h => ⟨h, HC.out⟩⟩]
      exact ups_one ha)
    go_wp2_with fail
    go_ret
    exact ⟨_, _, by rw [HE.out]; rfl, HOB9.out.as HE.out.symm⟩
  · have hc1 : ((a : Int) == 0) = false := by rw [Bool.eq_false_iff]; intro h; have := eq_of_beq h; omega
    have HC := Lib.hid hc
    clear hc
    have HE : Hid (lstE d t a = []) := Lib.hid (by
      rw [HT.out]; unfold lstE
      exact ups_zero fun y _ h => by rw [lead_seven] at h; exact HC.out h.2)
    go_wp2_with fail
    go_ret
    exact ⟨_, _, by rw [HE.out]; rfl, HOB.out.as HE.out.symm⟩
set_option maxHeartbeats 4000000 in
set_option maxRecDepth 100000 in
theorem reck_8 {d : Td} (hd : d.ok) {k : Nat} {t : RT} (hk : (pre d.T)[k]? = some t) (hop : t.op = 8) : ReckC d k t := by
  intro w a ha hs hy
  have hkl : k < d.N := Td.klt hk
  have hn := hd.n
  obtain ⟨p0, p1, -, -, -, -⟩ := hs.row hk
  obtain ⟨S, kp, kc, r1, r2, r3, r4, r5⟩ := hs.part k t hk
  rw [hop] at r1 r4
  have r1 : w.cell? ⟨d.bl, k * 3, none⟩ = some (.int .i64 (8)) := r1
  obtain ⟨kn, hkn⟩ : ∃ kn, t.kids.length = kn := ⟨_, rfl⟩
  rw [hkn] at r3
  obtain ⟨W1, hW1⟩ : ∃ W1, w.alloc (.cells #[.int .i64 (8), .string S, .slice kp kn kc] 121) = W1 := ⟨_, rfl⟩
  have hb1 : Below w.heap.size w W1 := by rw [← hW1]; exact (Below.refl _ _).alloc (Nat.le_refl _) _
  have hz1 : W1.heap.size = w.heap.size + 1 := by rw [← hW1]; simp
  obtain ⟨W2, hW2⟩ : ∃ W2, W1.alloc (.cells #[] 3) = W2 := ⟨_, rfl⟩
  have hb2 : Below w.heap.size w W2 := by rw [← hW2]; exact hb1.alloc (by omega) _
  have hbx : BoxP W2 w.heap.size (8) S kp kn kc := by rw [← hW2, ← hW1]; exact (Below.heap_alloc _ _ _ (by simp)).trans (mt_heap_new _ _)
  have hro : RowI W2 w.heap.size (w.heap.size + 1) 0 [] := by rw [← hW2, ← hz1]; exact RowI.new W1 [] _ (by omega) (by simp)
  have hz2 : W2.heap.size = w.heap.size + 2 := by rw [← hW2]; simp; omega
  have hc2 : Chg d.F w W2 := Chg.of_below hb2 (Nat.le_refl _)
  have HOB : Hid (Ob w W2 d (w.heap.size + 1) 0 []) := Lib.hid (Ob.start hy (Chg.refl _ _) hro hb2)
  have hnF : ¬ d.F w.heap.size := fun h => by have := hy.flt h; omega
  have HNF := Lib.hid hnF
  have HBX := Lib.hid hbx
  have HRO := Lib.hid hro
  have HB2 := Lib.hid hb2
  have HS := Lib.hid hs
  have HS2 := Lib.hid (hs.chg hc2)
  have HY := Lib.hid hy
  have HK := Lib.hid hk
  have HKN := Lib.hid hkn
  have HR4 := Lib.hid r4
  have HR5 := Lib.hid r5
  have HW2 : Hid ((w.alloc (.cells #[.int .i64 (8), .string S, .slice kp kn kc] 121)).alloc (.cells #[] 3) = W2) := Lib.hid (by rw [hW1]; exact hW2)
  obtain ⟨x0, x1, x2⟩ := hbx.c0
  have b0 : W2.cell? ⟨d.p, 0, none⟩ = some (.string d.s) := cell_kept p0 (hc2.block _ hs.plt hs.fp)
  have HZ2 := Lib.hid hz2
  clear hW1 hb1 hW2 hb2 hz1 hz2 hbx hro hc2 hnF hs hy hk r4 r5 hkn p0
  go_enter Tryd.func62, Tryd.ntmps62
  go_upto_region 3 with fail
  rw [HW2.out]
  clear HW2 p1 r1 r2 r3
  have HT : Hid (t = .mk 8 t.set t.kids) := Lib.hid (lstE_mk hop)
  clear hop
  by_cases hc : a = d.n
  · have hc1 : ((a : Int) == (d.s.size : Int)) = true := by rw [beq_iff_eq]; show (a : Int) = (d.n : Int); omega
    have HC := Lib.hid hc
    clear hc
    obtain ⟨i0, hi, hz0, hz1, hz2'⟩ := info_parts Tryd.infoI
    have hWl : w.heap.size ≤ W2.heap.size := HB2.out.size
    have HRW : Hid (W2.ownsRow w.heap.size 3 1 (.slice (some ⟨w.heap.size + 1, 0, none⟩) 0 0) 0 []) := Lib.hid HRO.out
    go_wp2_with (at_builtin; refine wpList_append_own_at _ rfl (.tmp 168) (.tmp 170) 101 rfl w.heap.size 3 i0 (.int .i64 0) 1 8 Tryd.underlying101 hi hz0 hz1 hz2' rfl (by decide) (.slice (some ⟨w.heap.size + 1, 0, none⟩) 0 0) 0 [] rfl (HRW.out.alloc _) ⟨W2.heap.size, 0, none⟩ 1 1 [.int .i64 (a : Int)] rfl rfl ?p1 ?p2 ?p3 ?p4 ?p5 ?_)
    try (case p1 => exact cell_one_new _ _ _)
    try (case p2 => simp [Value.oneCell'])
    try (case p3 => unfold maxLen; omega)
    try (case p4 => omega)
    try (case p5 => simp; have := HZ2.out; omega)
    intro v2 w9 hown9 hgrow9 _ _
    obtain ⟨g9, c9, hv9, -⟩ := rg_own_succ hown9
    have hv9 : v2 = .slice (some ⟨g9, 0, none⟩) 1 c9 := hv9
    subst hv9
    have hr9 : RowI w9 w.heap.size g9 c9 [a] := by unfold RowI; exact hown9
    have hb9 : Below w.heap.size w w9 := (HB2.out.alloc hWl _).grown hgrow9 (by simp; have := HZ2.out; omega) (fun j hj => by
      have : w.heap.size + 1 = j := by simpa [Value.ownBlock] using hj
      omega)
    have hbe9 : ∀ j, j < w.heap.size + 1 → w9.heap[j]? = W2.heap[j]? := fun j hj => by
      rw [← Below.heap_alloc W2 (.cells #[.int .i64 (a : Int)] 3) j (by have := HZ2.out; omega)]
      exact hgrow9.block j (by simp; have := HZ2.out; omega) (fun e => by
        have : j = w.heap.size + 1 := by simpa [Value.ownBlock] using e
        omega)
    have HOB9 : Hid (Ob w w9 d g9 c9 [a]) := Lib.hid (Ob.start HY.out (Chg.refl _ _) hr9 hb9)
    have HB9 := Lib.hid hb9
    have HBX9 : Hid (BoxP w9 w.heap.size _ S kp kn kc) := Lib.hid (HBX.out.next (hbe9 _ (by omega)))
    clear hown9 hgrow9 hr9 hb9 hbe9
    have HE : Hid (lstE d t a = [a]) := Lib.hid (by
      rw [HT.out]; unfold lstE
      rw [ups_congr (Q := fun y => a = y) fun y => by rw [lead_eight]; exact ⟨fun h => h.1, fun h => ⟨h, HC.out⟩⟩]
      exact ups_one ha)
    go_wp2_with fail
    go_ret
    exact ⟨_, _, by rw [HE.out]; rfl, HOB9.out.as HE.out.symm⟩
  · have hc1 : ((a : Int) == (d.s.size : Int)) = false := by rw [Bool.eq_false_iff]; intro h; have h2 : (a : Int) = (d.n : Int) := eq_of_beq h; omega
    have HC := Lib.hid hc
    clear hc
    have HE : Hid (lstE d t a = []) := Lib.hid (by
      rw [HT.out]; unfold lstE
      exact ups_zero fun y _ h => by rw [lead_eight] at h; exact HC.out h.2)
    go_wp2_with fail
    go_ret
    exact ⟨_, _, by rw [HE.out]; rfl, HOB.out.as HE.out.symm⟩
set_option maxHeartbeats 4000000 in
set_option maxRecDepth 100000 in
theorem reck_4 {d : Td} (hd : d.ok) {k : Nat} {t : RT} (hk : (pre d.T)[k]? = some t) (hop : t.op = 4) (CL : LoopC d k t) {u : RT} (hks : t.kids = [u]) : ReckC d k t := by
  intro w a ha hs hy
  have hkl : k < d.N := Td.klt hk
  have hn := hd.n
  obtain ⟨p0, p1, -, -, -, -⟩ := hs.row hk
  obtain ⟨S, kp, kc, r1, r2, r3, r4, r5⟩ := hs.part k t hk
  rw [hop] at r1 r4
  have r1 : w.cell? ⟨d.bl, k * 3, none⟩ = some (.int .i64 (4)) := r1
  obtain ⟨kn, hkn⟩ : ∃ kn, t.kids.length = kn := ⟨_, rfl⟩
  rw [hkn] at r3
  obtain ⟨W1, hW1⟩ : ∃ W1, w.alloc (.cells #[.int .i64 (4), .string S, .slice kp kn kc] 121) = W1 := ⟨_, rfl⟩
  have hb1 : Below w.heap.size w W1 := by rw [← hW1]; exact (Below.refl _ _).alloc (Nat.le_refl _) _
  have hz1 : W1.heap.size = w.heap.size + 1 := by rw [← hW1]; simp
  obtain ⟨W2, hW2⟩ : ∃ W2, W1.alloc (.cells #[] 3) = W2 := ⟨_, rfl⟩
  have hb2 : Below w.heap.size w W2 := by rw [← hW2]; exact hb1.alloc (by omega) _
  have hbx : BoxP W2 w.heap.size (4) S kp kn kc := by rw [← hW2, ← hW1]; exact (Below.heap_alloc _ _ _ (by simp)).trans (mt_heap_new _ _)
  have hro : RowI W2 w.heap.size (w.heap.size + 1) 0 [] := by rw [← hW2, ← hz1]; exact RowI.new W1 [] _ (by omega) (by simp)
  have hz2 : W2.heap.size = w.heap.size + 2 := by rw [← hW2]; simp; omega
  have hc2 : Chg d.F w W2 := Chg.of_below hb2 (Nat.le_refl _)
  have HOB : Hid (Ob w W2 d (w.heap.size + 1) 0 []) := Lib.hid (Ob.start hy (Chg.refl _ _) hro hb2)
  have hnF : ¬ d.F w.heap.size := fun h => by have := hy.flt h; omega
  have HNF := Lib.hid hnF
  have HBX := Lib.hid hbx
  have HRO := Lib.hid hro
  have HB2 := Lib.hid hb2
  have HS := Lib.hid hs
  have HS2 := Lib.hid (hs.chg hc2)
  have HY := Lib.hid hy
  have HK := Lib.hid hk
  have HKN := Lib.hid hkn
  have HR4 := Lib.hid r4
  have HR5 := Lib.hid r5
  have HW2 : Hid ((w.alloc (.cells #[.int .i64 (4), .string S, .slice kp kn kc] 121)).alloc (.cells #[] 3) = W2) := Lib.hid (by rw [hW1]; exact hW2)
  obtain ⟨x0, x1, x2⟩ := hbx.c0
  have b0 : W2.cell? ⟨d.p, 0, none⟩ = some (.string d.s) := cell_kept p0 (hc2.block _ hs.plt hs.fp)
  have HZ2 := Lib.hid hz2
  clear hW1 hb1 hW2 hb2 hz1 hz2 hbx hro hc2 hnF hs hy hk r4 r5 hkn p0
  go_enter Tryd.func62, Tryd.ntmps62
  go_upto_region 3 with fail
  rw [HW2.out]
  clear HW2 p1 r1 r2 r3
  have HT : Hid (t = .mk 4 t.set [u]) := Lib.hid (by have := lstE_mk hop; rw [hks] at this; exact this)
  have HC := Lib.hid (CL W2 a ha HS2.out HOB.out.dy)
  have HE : Hid (lstO d t a = lstE d t a) := Lib.hid (by
    rw [lstO_one hks]
    conv => rhs; rw [HT.out]
    unfold lstE
    exact (ups_congr (fun y => lead_any4) _).symm)
  clear hop hks CL x0 x1 x2 b0
  have hx := HBX.out.c0.1
  go_wp2_with fail
  refine HC.out.mono ?_
  rintro e w3 ⟨g, c, rfl, hob⟩
  have HO3 := Lib.hid (HOB.out.then hob).2
  clear hob
  go_wp2_with fail
  go_ret
  exact ⟨g, c, by rw [HE.out]; rfl, HO3.out.as HE.out⟩
set_option maxHeartbeats 4000000 in
set_option maxRecDepth 100000 in
theorem reck_6 {d : Td} (hd : d.ok) {k : Nat} {t : RT} (hk : (pre d.T)[k]? = some t) (hop : t.op = 6) {u : RT} (hks : t.kids = [u]) (CE : ∀ j, (pre d.T)[j]? = some u → EndsC d j u) : ReckC d k t := by
  intro w a ha hs hy
  have hkl : k < d.N := Td.klt hk
  have hn := hd.n
  obtain ⟨p0, p1, -, -, -, -⟩ := hs.row hk
  obtain ⟨S, kp, kc, r1, r2, r3, r4, r5⟩ := hs.part k t hk
  rw [hop] at r1 r4
  have r1 : w.cell? ⟨d.bl, k * 3, none⟩ = some (.int .i64 (6)) := r1
  obtain ⟨kn, hkn⟩ : ∃ kn, t.kids.length = kn := ⟨_, rfl⟩
  rw [hkn] at r3
  obtain ⟨W1, hW1⟩ : ∃ W1, w.alloc (.cells #[.int .i64 (6), .string S, .slice kp kn kc] 121) = W1 := ⟨_, rfl⟩
  have hb1 : Below w.heap.size w W1 := by rw [← hW1]; exact (Below.refl _ _).alloc (Nat.le_refl _) _
  have hz1 : W1.heap.size = w.heap.size + 1 := by rw [← hW1]; simp
  obtain ⟨W2, hW2⟩ : ∃ W2, W1.alloc (.cells #[] 3) = W2 := ⟨_, rfl⟩
  have hb2 : Below w.heap.size w W2 := by rw [← hW2]; exact hb1.alloc (by omega) _
  have hbx : BoxP W2 w.heap.size (6) S kp kn kc := by rw [← hW2, ← hW1]; exact (Below.heap_alloc _ _ _ (by simp)).trans (mt_heap_new _ _)
  have hro : RowI W2 w.heap.size (w.heap.size + 1) 0 [] := by rw [← hW2, ← hz1]; exact RowI.new W1 [] _ (by omega) (by simp)
  have hz2 : W2.heap.size = w.heap.size + 2 := by rw [← hW2]; simp; omega
  have hc2 : Chg d.F w W2 := Chg.of_below hb2 (Nat.le_refl _)
  have HOB : Hid (Ob w W2 d (w.heap.size + 1) 0 []) := Lib.hid (Ob.start hy (Chg.refl _ _) hro hb2)
  have hnF : ¬ d.F w.heap.size := fun h => by have := hy.flt h; omega
  have HNF := Lib.hid hnF
  have HBX := Lib.hid hbx
  have HRO := Lib.hid hro
  have HB2 := Lib.hid hb2
  have HS := Lib.hid hs
  have HS2 := Lib.hid (hs.chg hc2)
  have HY := Lib.hid hy
  have HK := Lib.hid hk
  have HKN := Lib.hid hkn
  have HR4 := Lib.hid r4
  have HR5 := Lib.hid r5
  have HW2 : Hid ((w.alloc (.cells #[.int .i64 (6), .string S, .slice kp kn kc] 121)).alloc (.cells #[] 3) = W2) := Lib.hid (by rw [hW1]; exact hW2)
  obtain ⟨x0, x1, x2⟩ := hbx.c0
  have b0 : W2.cell? ⟨d.p, 0, none⟩ = some (.string d.s) := cell_kept p0 (hc2.block _ hs.plt hs.fp)
  have HZ2 := Lib.hid hz2
  clear hW1 hb1 hW2 hb2 hz1 hz2 hbx hro hc2 hnF hs hy hk r4 r5 hkn p0
  go_enter Tryd.func62, Tryd.ntmps62
  go_upto_region 3 with fail
  rw [HW2.out]
  clear HW2 p1 r1 r2 r3
  have HT : Hid (t = .mk 6 t.set [u]) := Lib.hid (by have := lstE_mk hop; rw [hks] at this; exact this)
  obtain ⟨g0, j0, rfl, hg0, hgl, r6, hj0⟩ := HR5.out 0 u (by rw [hks]; rfl)
  have r6 : W2.cell? ⟨g0, 0, none⟩ = some (.int .i64 (j0 : Int)) := cell_kept r6 (HB2.out.block _ hgl)
  have hkn1 : kn = 1 := by rw [← HKN.out, hks]; rfl
  subst hkn1
  have HCE := Lib.hid (CE j0 hj0)
  clear hop hks hj0 CE
  obtain ⟨W3, hW3⟩ : ∃ W3, W2.alloc (.cells #[.int .i64 (a : Int)] 3) = W3 := ⟨_, rfl⟩
  have hb3 : Below W2.heap.size W2 W3 := by rw [← hW3]; exact (Below.refl _ _).alloc (Nat.le_refl _) _
  have hr3 : RowI W3 W2.heap.size W2.heap.size 1 [a] := by rw [← hW3]; exact RowI.new W2 [a] _ (Nat.le_refl _) (by simp)
  have HOB3 : Hid (Ob w W3 d W2.heap.size 1 [a]) := Lib.hid (HOB.out.fresh hr3 hb3)
  have HBX3 : Hid (BoxP W3 w.heap.size _ S _ _ kc) := Lib.hid (HBX.out.next (hb3.block _ (by have := HZ2.out; omega)))
  have q2 := HBX3.out.c0.2.2
  have hgl2 : g0 < W2.heap.size := by have := HZ2.out; omega
  have q6 : W3.cell? ⟨g0, 0, none⟩ = some (.int .i64 (j0 : Int)) := cell_kept r6 (hb3.block _ hgl2)
  have HC3 := Lib.hid (HCE.out W3 a ha (HS.out.chg HOB3.out.ch) HOB3.out.dy)
  have HE : Hid (ups (fun y => a = y ∨ Lead (gS d.s) d.n u a y) (d.n + 1) = lstE d t a) := Lib.hid (by
    conv => rhs; rw [HT.out]
    unfold lstE
    exact (ups_congr (fun y => lead_maybe6) _).symm)
  have h1 : ups (fun y => a = y) (d.n + 1) = [a] := ups_one ha
  have HW3 := Lib.hid hW3
  have H1 := Lib.hid h1
  clear hW3 hb3 hr3 HCE h1 r6 x0 x1 x2 b0
  have hx := HBX.out.c0.1
  go_upto_region 40 with fail
  go_wp2_with (rw [HW3.out]; go_wp2_with fail)
  refine HC3.out.mono ?_
  rintro e w4 ⟨g4, c4, rfl, hob4⟩
  obtain ⟨ho3, ho4⟩ := HOB3.out.then hob4
  have HO4 := Lib.hid ho4
  have HBT := Lib.hid (rboth_any (P := fun y => a = y) (Q := Lead (gS d.s) d.n u a) (N := d.n + 1) (by omega) (by rw [H1.out]; exact ho3.row) ho4.row)
  rw [H1.out] at HBT
  clear hob4 ho3 ho4 HC3
  go_wp2_with fail
  refine HBT.out.mono ?_
  rintro e w5 ⟨g5, c5, rfl, hr5, hb5⟩
  rw [HE.out] at hr5 ⊢
  have HO5 : Hid (Ob w w5 d g5 c5 (lstE d t a)) := Lib.hid (HO4.out.fresh hr5 hb5)
  have HBX5 : Hid True := Lib.hid trivial
  clear hr5 hb5 HBT HBX5
  go_wp2_with fail
  go_ret
  exact ⟨g5, c5, rfl, HO5.out⟩
set_option maxHeartbeats 4000000 in
set_option maxRecDepth 100000 in
theorem reck_3 {d : Td} (hd : d.ok) {k : Nat} {t : RT} (hk : (pre d.T)[k]? = some t) (hop : t.op = 3) (CE : ∀ u ∈ t.kids, ∀ j, (pre d.T)[j]? = some u → EndsC d j u) : ReckC d k t := by
  intro w a ha hs hy
  have hkl : k < d.N := Td.klt hk
  have hn := hd.n
  obtain ⟨p0, p1, -, -, -, -⟩ := hs.row hk
  obtain ⟨S, kp, kc, r1, r2, r3, r4, r5⟩ := hs.part k t hk
  rw [hop] at r1 r4
  have r1 : w.cell? ⟨d.bl, k * 3, none⟩ = some (.int .i64 (3)) := r1
  obtain ⟨kn, hkn⟩ : ∃ kn, t.kids.length = kn := ⟨_, rfl⟩
  rw [hkn] at r3
  obtain ⟨W1, hW1⟩ : ∃ W1, w.alloc (.cells #[.int .i64 (3), .string S, .slice kp kn kc] 121) = W1 := ⟨_, rfl⟩
  have hb1 : Below w.heap.size w W1 := by rw [← hW1]; exact (Below.refl _ _).alloc (Nat.le_refl _) _
  have hz1 : W1.heap.size = w.heap.size + 1 := by rw [← hW1]; simp
  obtain ⟨W2, hW2⟩ : ∃ W2, W1.alloc (.cells #[] 3) = W2 := ⟨_, rfl⟩
  have hb2 : Below w.heap.size w W2 := by rw [← hW2]; exact hb1.alloc (by omega) _
  have hbx : BoxP W2 w.heap.size (3) S kp kn kc := by rw [← hW2, ← hW1]; exact (Below.heap_alloc _ _ _ (by simp)).trans (mt_heap_new _ _)
  have hro : RowI W2 w.heap.size (w.heap.size + 1) 0 [] := by rw [← hW2, ← hz1]; exact RowI.new W1 [] _ (by omega) (by simp)
  have hz2 : W2.heap.size = w.heap.size + 2 := by rw [← hW2]; simp; omega
  have hc2 : Chg d.F w W2 := Chg.of_below hb2 (Nat.le_refl _)
  have HOB : Hid (Ob w W2 d (w.heap.size + 1) 0 []) := Lib.hid (Ob.start hy (Chg.refl _ _) hro hb2)
  have hnF : ¬ d.F w.heap.size := fun h => by have := hy.flt h; omega
  have HNF := Lib.hid hnF
  have HBX := Lib.hid hbx
  have HRO := Lib.hid hro
  have HB2 := Lib.hid hb2
  have HS := Lib.hid hs
  have HS2 := Lib.hid (hs.chg hc2)
  have HY := Lib.hid hy
  have HK := Lib.hid hk
  have HKN := Lib.hid hkn
  have HR4 := Lib.hid r4
  have HR5 := Lib.hid r5
  have HW2 : Hid ((w.alloc (.cells #[.int .i64 (3), .string S, .slice kp kn kc] 121)).alloc (.cells #[] 3) = W2) := Lib.hid (by rw [hW1]; exact hW2)
  obtain ⟨x0, x1, x2⟩ := hbx.c0
  have b0 : W2.cell? ⟨d.p, 0, none⟩ = some (.string d.s) := cell_kept p0 (hc2.block _ hs.plt hs.fp)
  have HZ2 := Lib.hid hz2
  clear hW1 hb1 hW2 hb2 hz1 hz2 hbx hro hc2 hnF hs hy hk r4 r5 hkn p0
  go_enter Tryd.func62, Tryd.ntmps62
  go_upto_region 3 with fail
  rw [HW2.out]
  clear HW2 p1 r1 r2 r3
  obtain ⟨ks, hks⟩ : ∃ ks, t.kids = ks := ⟨_, rfl⟩
  have HT : Hid (t = .mk 3 t.set ks) := Lib.hid (by have := lstE_mk hop; rw [hks] at this; exact this)
  rw [hks] at HKN HR5 CE
  have HCK := Lib.hid CE
  have hknb : kn ≤ 1000000 := by rw [← HKN.out, ← hks]; exact hd.kn t (List.mem_of_getElem? HK.out)
  clear hop hks CE
  have hx := HBX.out.c0.2.2
  clear x0 x1 x2
  have x0 := HBX.out.c0.1
  go_wp2_with fail
  go_loopw [8, 101] (fun ov iv wr => ∃ (i g c : Nat), i ≤ kn ∧ ov = .slice (some ⟨g, 0, none⟩) (ups (AltL (gS d.s) d.n (ks.take i) a) (d.n + 1)).length c ∧ iv = .int .i64 (i : Int) ∧ Hid (Ob w wr d g c (ups (AltL (gS d.s) d.n (ks.take i) a) (d.n + 1))))
    (fun _ iv _ => kn - (intOf iv).toNat)
  case atStart =>
    have h0 : ups (AltL (gS d.s) d.n (ks.take 0) a) (d.n + 1) = [] := ups_zero fun y _ h => by unfold List.take at h; exact h
    exact ⟨0, w.heap.size + 1, 0, Nat.zero_le _, by rw [h0]; rfl, rfl, Lib.hid (by rw [h0]; exact HOB.out)⟩
  case round =>
    obtain ⟨i, g, c, hi, rfl, rfl, HB⟩ := hrel
    clear HOB HRO
    by_cases hil : i < kn
    · obtain ⟨u, hu⟩ : ∃ u, ks[i]? = some u := ⟨_, List.getElem?_eq_getElem (by rw [HKN.out]; exact hil)⟩
      obtain ⟨g0, j0, rfl, hg0, hgl, r6, hj0⟩ := HR5.out i u hu
      have q6 : wr.cell? ⟨g0, i, none⟩ = some (.int .i64 (j0 : Int)) := cell_kept r6 (HB.out.ch.block _ hgl hg0)
      have HCE := Lib.hid (HCK.out u (List.mem_of_getElem? hu) j0 hj0)
      have hdI : decide ((i : Int) < (kn : Int)) = true := decide_eq_true (by omega)
      have hdN : decide (i < kn) = true := decide_eq_true hil
      have htk : ks.take (i + 1) = ks.take i ++ [u] := by
        rw [List.take_add_one, hu]; rfl
      have HTK := Lib.hid htk
      have HU := Lib.hid hu
      clear r6 hj0 hu htk
      have HE0 := Lib.hid (HCE.out wr a ha (HS.out.chg HB.out.ch) HB.out.dy)
      obtain ⟨m1, hm1⟩ : ∃ m1, (ups (AltL (gS d.s) d.n (ks.take i) a) (d.n + 1)).length = m1 := ⟨_, rfl⟩
      rw [hm1]
      have HM1 := Lib.hid hm1
      clear hm1 HCE
      go_wp2_with fail
      refine HE0.out.mono ?_
      rintro e w3 ⟨g3, c3, rfl, hob3⟩
      obtain ⟨ho1, ho3⟩ := HB.out.then hob3
      have HO1 := Lib.hid ho1
      have HBT := Lib.hid (rboth_any (P := AltL (gS d.s) d.n (ks.take i) a) (Q := Lead (gS d.s) d.n u a) (N := d.n + 1) (by omega) ho1.row ho3.row)
      rw [HM1.out] at HBT
      clear hob3 ho1 ho3 HB HE0 q6
      unfold lstE
      go_wp2_with fail
      refine HBT.out.mono ?_
      rintro e w4 ⟨g4, c4, rfl, hr4, hb4⟩
      have hE : ups (fun y => AltL (gS d.s) d.n (ks.take i) a y ∨ Lead (gS d.s) d.n u a y) (d.n + 1) = ups (AltL (gS d.s) d.n (ks.take (i + 1)) a) (d.n + 1) := by
        rw [HTK.out]
        exact (ups_congr (fun y => altL_last) _).symm
      rw [hE] at hr4 ⊢
      have HO4 : Hid (Ob w w4 d g4 c4 _) := Lib.hid (HO1.out.fresh hr4 hb4)
      clear hr4 hb4 HBT HO1 hE
      go_wp2_with fail
      go_roundw
      case rel => exact ⟨i + 1, g4, c4, by omega, rfl, by go_num, HO4⟩
      case measure => simp [intOf]; omega
    · obtain rfl : i = kn := by omega
      have hE : ups (AltL (gS d.s) d.n (ks.take i) a) (d.n + 1) = lstE d t a := by
        conv => rhs; rw [HT.out]
        unfold lstE
        rw [← HKN.out, List.take_length]
        exact (ups_congr (fun y => lead_or3) _).symm
      rw [hE] at HB ⊢
      clear hE
      go_wp2_with fail
      go_ret
      exact ⟨g, c, rfl, HB.out⟩
set_option maxHeartbeats 4000000 in
set_option maxRecDepth 100000 in
theorem reck_5 {d : Td} (hd : d.ok) {k : Nat} {t : RT} (hk : (pre d.T)[k]? = some t) (hop : t.op = 5) (CL : LoopC d k t) {u : RT} (hks : t.kids = [u]) (CE : ∀ j, (pre d.T)[j]? = some u → EndsC d j u) : ReckC d k t := by
  intro w a ha hs hy
  have hkl : k < d.N := Td.klt hk
  have hn := hd.n
  obtain ⟨p0, p1, -, -, -, -⟩ := hs.row hk
  obtain ⟨S, kp, kc, r1, r2, r3, r4, r5⟩ := hs.part k t hk
  rw [hop] at r1 r4
  have r1 : w.cell? ⟨d.bl, k * 3, none⟩ = some (.int .i64 (5)) := r1
  obtain ⟨kn, hkn⟩ : ∃ kn, t.kids.length = kn := ⟨_, rfl⟩
  rw [hkn] at r3
  obtain ⟨W1, hW1⟩ : ∃ W1, w.alloc (.cells #[.int .i64 (5), .string S, .slice kp kn kc] 121) = W1 := ⟨_, rfl⟩
  have hb1 : Below w.heap.size w W1 := by rw [← hW1]; exact (Below.refl _ _).alloc (Nat.le_refl _) _
  have hz1 : W1.heap.size = w.heap.size + 1 := by rw [← hW1]; simp
  obtain ⟨W2, hW2⟩ : ∃ W2, W1.alloc (.cells #[] 3) = W2 := ⟨_, rfl⟩
  have hb2 : Below w.heap.size w W2 := by rw [← hW2]; exact hb1.alloc (by omega) _
  have hbx : BoxP W2 w.heap.size (5) S kp kn kc := by rw [← hW2, ← hW1]; exact (Below.heap_alloc _ _ _ (by simp)).trans (mt_heap_new _ _)
  have hro : RowI W2 w.heap.size (w.heap.size + 1) 0 [] := by rw [← hW2, ← hz1]; exact RowI.new W1 [] _ (by omega) (by simp)
  have hz2 : W2.heap.size = w.heap.size + 2 := by rw [← hW2]; simp; omega
  have hc2 : Chg d.F w W2 := Chg.of_below hb2 (Nat.le_refl _)
  have HOB : Hid (Ob w W2 d (w.heap.size + 1) 0 []) := Lib.hid (Ob.start hy (Chg.refl _ _) hro hb2)
  have hnF : ¬ d.F w.heap.size := fun h => by have := hy.flt h; omega
  have HNF := Lib.hid hnF
  have HBX := Lib.hid hbx
  have HRO := Lib.hid hro
  have HB2 := Lib.hid hb2
  have HS := Lib.hid hs
  have HS2 := Lib.hid (hs.chg hc2)
  have HY := Lib.hid hy
  have HK := Lib.hid hk
  have HKN := Lib.hid hkn
  have HR4 := Lib.hid r4
  have HR5 := Lib.hid r5
  have HW2 : Hid ((w.alloc (.cells #[.int .i64 (5), .string S, .slice kp kn kc] 121)).alloc (.cells #[] 3) = W2) := Lib.hid (by rw [hW1]; exact hW2)
  obtain ⟨x0, x1, x2⟩ := hbx.c0
  have b0 : W2.cell? ⟨d.p, 0, none⟩ = some (.string d.s) := cell_kept p0 (hc2.block _ hs.plt hs.fp)
  have HZ2 := Lib.hid hz2
  clear hW1 hb1 hW2 hb2 hz1 hz2 hbx hro hc2 hnF hs hy hk r4 r5 hkn p0
  go_enter Tryd.func62, Tryd.ntmps62
  go_upto_region 3 with fail
  rw [HW2.out]
  clear HW2 p1 r1 r2 r3
  have HT : Hid (t = .mk 5 t.set [u]) := Lib.hid (by have := lstE_mk hop; rw [hks] at this; exact this)
  have HLO : Hid (∀ a, lstO d t a = ups (Often (Lead (gS d.s) d.n u) a) (d.n + 1)) := Lib.hid fun a => lstO_one hks a
  have HCL := Lib.hid CL
  obtain ⟨g0, j0, rfl, hg0, hgl, r6, hj0⟩ := HR5.out 0 u (by rw [hks]; rfl)
  have r6 : W2.cell? ⟨g0, 0, none⟩ = some (.int .i64 (j0 : Int)) := cell_kept r6 (HB2.out.block _ hgl)
  have hkn1 : kn = 1 := by rw [← HKN.out, hks]; rfl
  subst hkn1
  have HCE := Lib.hid (CE j0 hj0)
  clear hop hks hj0 CE
  clear CL
  have HC3 := Lib.hid (HCE.out W2 a ha HS2.out HOB.out.dy)
  go_wp2_with fail
  refine HC3.out.mono ?_
  rintro e w2 ⟨gE, cE, rfl, hobE⟩
  obtain ⟨hob1, hobE⟩ := HOB.out.then hobE
  have HOB2 := Lib.hid hob1
  have HOE := Lib.hid hobE
  obtain ⟨LE, hLE⟩ : ∃ LE, lstE d u a = LE := ⟨_, rfl⟩
  have HLE := Lib.hid hLE
  rw [hLE] at HOE
  have hEl : LE.length ≤ d.n + 1 := by rw [← hLE]; exact ups_lenle _ _
  rw [hLE]
  obtain ⟨nE, hnE⟩ : ∃ nE, LE.length = nE := ⟨_, rfl⟩
  rw [hnE] at hEl ⊢
  have HNE := Lib.hid hnE
  clear hLE hnE hob1 hobE HOB HC3 HRO r6 x0 x1 x2 b0
  go_wp2_with fail
  go_loopw [8, 128] (fun ov iv wr => ∃ (i g c : Nat), i ≤ nE ∧ ov = .slice (some ⟨g, 0, none⟩) (ups (MP (Often (Lead (gS d.s) d.n u)) LE i) (d.n + 1)).length c ∧ iv = .int .i64 (i : Int) ∧ Hid (Ob w wr d g c (ups (MP (Often (Lead (gS d.s) d.n u)) LE i) (d.n + 1))) ∧ Hid (RowI wr 0 gE cE LE ∧ ¬ d.F gE))
    (fun _ iv _ => nE - (intOf iv).toNat)
  case atStart =>
    have h0 : ups (MP (Often (Lead (gS d.s) d.n u)) LE 0) (d.n + 1) = [] := MP.zero
    exact ⟨0, w.heap.size + 1, 0, Nat.zero_le _, by rw [h0]; rfl, rfl, Lib.hid (by rw [h0]; exact HOB2.out), Lib.hid ⟨HOE.out.row, HOE.out.nf⟩⟩
  case round =>
    obtain ⟨i, g, c, hi, rfl, rfl, HB, HRE⟩ := hrel
    clear HOB2 HOE
    by_cases hil : i < nE
    · have hil2 : i < LE.length := by rw [HNE.out]; exact hil
      obtain ⟨j, hj⟩ : ∃ j, LE[i]? = some j := ⟨_, List.getElem?_eq_getElem hil2⟩
      have q1 : wr.cell? ⟨gE, i, none⟩ = some (.int .i64 (j : Int)) := HRE.out.1.cell hj
      have hjn : j < d.n + 1 := by
        have := (ups_at_mem (P := Lead (gS d.s) d.n u a) (n := d.n + 1) (x := j)).1 ⟨i, by rw [show ups (Lead (gS d.s) d.n u a) (d.n + 1) = LE from HLE.out]; exact hj⟩
        exact this.1
      have HL := Lib.hid (HCL.out wr j (by omega) (HS.out.chg HB.out.ch) HB.out.dy)
      have HM := Lib.hid (MP.more (R := Often (Lead (gS d.s) d.n u)) (n := d.n + 1) hj)
      clear hj
      obtain ⟨m1, hm1⟩ : ∃ m1, (ups (MP (Often (Lead (gS d.s) d.n u)) LE i) (d.n + 1)).length = m1 := ⟨_, rfl⟩
      rw [hm1]
      have HM1 := Lib.hid hm1
      clear hm1
      go_wp2_with fail
      refine HL.out.mono ?_
      rintro e w3 ⟨g3, c3, rfl, hob3⟩
      obtain ⟨ho1, ho3⟩ := HB.out.then hob3
      have HO1 := Lib.hid ho1
      have HRE3 : Hid (RowI w3 0 gE cE LE ∧ ¬ d.F gE) := Lib.hid ⟨HRE.out.1.kept (hob3.ch.block _ HRE.out.1.base.2 HRE.out.2), HRE.out.2⟩
      have HBT := Lib.hid (rboth_any (P := MP (Often (Lead (gS d.s) d.n u)) LE i) (Q := Often (Lead (gS d.s) d.n u) j) (N := d.n + 1) (by omega) ho1.row (by
        have := ho3.row
        rw [HLO.out] at this
        exact this))
      rw [← HLO.out, HM1.out] at HBT
      clear hob3 ho1 ho3 HB HRE HL q1
      go_wp2_with fail
      refine HBT.out.mono ?_
      rintro e w4 ⟨g4, c4, rfl, hr4, hb4⟩
      rw [HM.out] at hr4 ⊢
      have HO4 : Hid (Ob w w4 d g4 c4 _) := Lib.hid (HO1.out.fresh hr4 hb4)
      have HRE4 : Hid (RowI w4 0 gE cE LE ∧ ¬ d.F gE) := Lib.hid ⟨HRE3.out.1.next hb4, HRE3.out.2⟩
      clear hr4 hb4 HBT HO1 HRE3
      go_wp2_with fail
      go_roundw
      case rel => exact ⟨i + 1, g4, c4, by omega, rfl, by go_num, HO4, HRE4⟩
      case measure => simp [intOf]; omega
    · obtain rfl : i = nE := by omega
      have hE : ups (MP (Often (Lead (gS d.s) d.n u)) LE i) (d.n + 1) = lstE d t a := by
        have := MP.all (R := Often (Lead (gS d.s) d.n u)) (P := Lead (gS d.s) d.n u) (fun i j h => h.le (Lead.le2 u)) (a := a) (n := d.n)
        rw [show ups (Lead (gS d.s) d.n u a) (d.n + 1) = LE from HLE.out, HNE.out] at this
        rw [this]
        conv => rhs; rw [HT.out]
        unfold lstE
        exact (ups_congr (fun y => lead_some5) _).symm
      rw [hE] at HB ⊢
      clear hE
      go_wp2_with fail
      go_ret
      exact ⟨g, c, rfl, HB.out⟩
set_option maxHeartbeats 4000000 in
set_option maxRecDepth 100000 in
theorem reck_2 {d : Td} (hd : d.ok) {k : Nat} {t : RT} (hk : (pre d.T)[k]? = some t) (hop : t.op = 2) (CE : ∀ u ∈ t.kids, ∀ j, (pre d.T)[j]? = some u → EndsC d j u) : ReckC d k t := by
  intro w a ha hs hy
  have hkl : k < d.N := Td.klt hk
  have hn := hd.n
  obtain ⟨p0, p1, -, -, -, -⟩ := hs.row hk
  obtain ⟨S, kp, kc, r1, r2, r3, r4, r5⟩ := hs.part k t hk
  rw [hop] at r1 r4
  have r1 : w.cell? ⟨d.bl, k * 3, none⟩ = some (.int .i64 (2)) := r1
  obtain ⟨kn, hkn⟩ : ∃ kn, t.kids.length = kn := ⟨_, rfl⟩
  rw [hkn] at r3
  obtain ⟨W1, hW1⟩ : ∃ W1, w.alloc (.cells #[.int .i64 (2), .string S, .slice kp kn kc] 121) = W1 := ⟨_, rfl⟩
  have hb1 : Below w.heap.size w W1 := by rw [← hW1]; exact (Below.refl _ _).alloc (Nat.le_refl _) _
  have hz1 : W1.heap.size = w.heap.size + 1 := by rw [← hW1]; simp
  obtain ⟨W2, hW2⟩ : ∃ W2, W1.alloc (.cells #[] 3) = W2 := ⟨_, rfl⟩
  have hb2 : Below w.heap.size w W2 := by rw [← hW2]; exact hb1.alloc (by omega) _
  have hbx : BoxP W2 w.heap.size (2) S kp kn kc := by rw [← hW2, ← hW1]; exact (Below.heap_alloc _ _ _ (by simp)).trans (mt_heap_new _ _)
  have hro : RowI W2 w.heap.size (w.heap.size + 1) 0 [] := by rw [← hW2, ← hz1]; exact RowI.new W1 [] _ (by omega) (by simp)
  have hz2 : W2.heap.size = w.heap.size + 2 := by rw [← hW2]; simp; omega
  have hc2 : Chg d.F w W2 := Chg.of_below hb2 (Nat.le_refl _)
  have HOB : Hid (Ob w W2 d (w.heap.size + 1) 0 []) := Lib.hid (Ob.start hy (Chg.refl _ _) hro hb2)
  have hnF : ¬ d.F w.heap.size := fun h => by have := hy.flt h; omega
  have HNF := Lib.hid hnF
  have HBX := Lib.hid hbx
  have HRO := Lib.hid hro
  have HB2 := Lib.hid hb2
  have HS := Lib.hid hs
  have HS2 := Lib.hid (hs.chg hc2)
  have HY := Lib.hid hy
  have HK := Lib.hid hk
  have HKN := Lib.hid hkn
  have HR4 := Lib.hid r4
  have HR5 := Lib.hid r5
  have HW2 : Hid ((w.alloc (.cells #[.int .i64 (2), .string S, .slice kp kn kc] 121)).alloc (.cells #[] 3) = W2) := Lib.hid (by rw [hW1]; exact hW2)
  obtain ⟨x0, x1, x2⟩ := hbx.c0
  have b0 : W2.cell? ⟨d.p, 0, none⟩ = some (.string d.s) := cell_kept p0 (hc2.block _ hs.plt hs.fp)
  have HZ2 := Lib.hid hz2
  clear hW1 hb1 hW2 hb2 hz1 hz2 hbx hro hc2 hnF hs hy hk r4 r5 hkn p0
  go_enter Tryd.func62, Tryd.ntmps62
  go_upto_region 3 with fail
  rw [HW2.out]
  clear HW2 p1 r1 r2 r3
  obtain ⟨ks, hks⟩ : ∃ ks, t.kids = ks := ⟨_, rfl⟩
  have HT : Hid (t = .mk 2 t.set ks) := Lib.hid (by have := lstE_mk hop; rw [hks] at this; exact this)
  rw [hks] at HKN HR5 CE
  have HCK := Lib.hid CE
  have hknb : kn ≤ 1000000 := by rw [← HKN.out, ← hks]; exact hd.kn t (List.mem_of_getElem? HK.out)
  clear hop hks CE
  clear x1 x2
  obtain ⟨i0, hi, hz0, hz1, hz2'⟩ := info_parts Tryd.infoI
  have hWl : w.heap.size ≤ W2.heap.size := HB2.out.size
  have HRW : Hid (W2.ownsRow w.heap.size 3 1 (.slice (some ⟨w.heap.size + 1, 0, none⟩) 0 0) 0 []) := Lib.hid HRO.out
  go_wp2_with (at_builtin; refine wpList_append_own_at _ rfl (.tmp 69) (.tmp 71) 101 rfl w.heap.size 3 i0 (.int .i64 0) 1 8 Tryd.underlying101 hi hz0 hz1 hz2' rfl (by decide) (.slice (some ⟨w.heap.size + 1, 0, none⟩) 0 0) 0 [] rfl (HRW.out.alloc _) ⟨W2.heap.size, 0, none⟩ 1 1 [.int .i64 (a : Int)] rfl rfl ?p1 ?p2 ?p3 ?p4 ?p5 ?_)
  try (case p1 => exact cell_one_new _ _ _)
  try (case p2 => simp [Value.oneCell'])
  try (case p3 => unfold maxLen; omega)
  try (case p4 => omega)
  try (case p5 => simp; have := HZ2.out; omega)
  intro v2 w9 hown9 hgrow9 _ _
  obtain ⟨g9, c9, hv9, -⟩ := rg_own_succ hown9
  have hv9 : v2 = .slice (some ⟨g9, 0, none⟩) 1 c9 := hv9
  subst hv9
  have hr9 : RowI w9 w.heap.size g9 c9 [a] := by unfold RowI; exact hown9
  have hb9 : Below w.heap.size w w9 := (HB2.out.alloc hWl _).grown hgrow9 (by simp; have := HZ2.out; omega) (fun j hj => by
    have : w.heap.size + 1 = j := by simpa [Value.ownBlock] using hj
    omega)
  have hbe9 : ∀ j, j < w.heap.size + 1 → w9.heap[j]? = W2.heap[j]? := fun j hj => by
    rw [← Below.heap_alloc W2 (.cells #[.int .i64 (a : Int)] 3) j (by have := HZ2.out; omega)]
    exact hgrow9.block j (by simp; have := HZ2.out; omega) (fun e => by
      have : j = w.heap.size + 1 := by simpa [Value.ownBlock] using e
      omega)
  have HOB9 : Hid (Ob w w9 d g9 c9 [a]) := Lib.hid (Ob.start HY.out (Chg.refl _ _) hr9 hb9)
  have HB9 := Lib.hid hb9
  have HBX9 : Hid (BoxP w9 w.heap.size _ S kp kn kc) := Lib.hid (HBX.out.next (hbe9 _ (by omega)))
  clear hown9 hgrow9 hr9 hb9 hbe9
  have y2 := HBX9.out.c0.2.2
  clear x0
  go_wp2_with fail
  go_loopw [8, 76] (fun ov iv wr => ∃ (i g c : Nat), i ≤ kn ∧ ov = .slice (some ⟨g, 0, none⟩) (ups (CatL (gS d.s) d.n (ks.take i) a) (d.n + 1)).length c ∧ iv = .int .i64 (i : Int) ∧ Hid (Ob w wr d g c (ups (CatL (gS d.s) d.n (ks.take i) a) (d.n + 1))))
    (fun _ iv _ => kn - (intOf iv).toNat)
  case atStart =>
    have h0 : ups (CatL (gS d.s) d.n (ks.take 0) a) (d.n + 1) = [a] := by
      rw [List.take_zero, ups_congr (Q := fun y => a = y) (fun y => catL_nil)]
      exact ups_one ha
    exact ⟨0, g9, c9, Nat.zero_le _, by rw [h0]; rfl, rfl, Lib.hid (by rw [h0]; exact HOB9.out)⟩
  case round =>
    obtain ⟨i, g, c, hi, rfl, rfl, HB⟩ := hrel
    clear HOB HRO HOB9 HB9 HBX9 y2
    by_cases hil : i < kn
    · obtain ⟨u, hu⟩ : ∃ u, ks[i]? = some u := ⟨_, List.getElem?_eq_getElem (by rw [HKN.out]; exact hil)⟩
      obtain ⟨g0, j0, rfl, hg0, hgl, r6, hj0⟩ := HR5.out i u hu
      have q6 : wr.cell? ⟨g0, i, none⟩ = some (.int .i64 (j0 : Int)) := cell_kept r6 (HB.out.ch.block _ hgl hg0)
      have HCE := Lib.hid (HCK.out u (List.mem_of_getElem? hu) j0 hj0)
      have hdI : decide ((i : Int) < (kn : Int)) = true := decide_eq_true (by omega)
      have hdN : decide (i < kn) = true := decide_eq_true hil
      have htk : ks.take (i + 1) = ks.take i ++ [u] := by
        rw [List.take_add_one, hu]; rfl
      have HTK := Lib.hid htk
      have HU := Lib.hid hu
      clear r6 hj0 hu htk
      obtain ⟨OUT, hOUT⟩ : ∃ OUT, ups (CatL (gS d.s) d.n (ks.take i) a) (d.n + 1) = OUT := ⟨_, rfl⟩
      have HOUT := Lib.hid hOUT
      rw [hOUT] at HB ⊢
      obtain ⟨W5, hW5⟩ : ∃ x, x = wr := ⟨_, rfl⟩
      subst hW5
      have hol : OUT.length ≤ d.n + 1 := by rw [← hOUT]; exact ups_lenle _ _
      obtain ⟨no, hno⟩ : ∃ no, OUT.length = no := ⟨_, rfl⟩
      rw [hno] at hol ⊢
      have HNO := Lib.hid hno
      obtain ⟨W3, hW3⟩ : ∃ W3, W5.alloc (.cells #[] 3) = W3 := ⟨_, rfl⟩
      have hb3 : Below W5.heap.size W5 W3 := by rw [← hW3]; exact (Below.refl _ _).alloc (Nat.le_refl _) _
      have hr3 : RowI W3 W5.heap.size W5.heap.size 0 [] := by rw [← hW3]; exact RowI.new W5 [] _ (Nat.le_refl _) (by simp)
      have HOB3 : Hid (Ob w W3 d W5.heap.size 0 []) := Lib.hid (HB.out.fresh hr3 hb3)
      have HRE3 : Hid (RowI W3 0 g c OUT ∧ ¬ d.F g) := Lib.hid ⟨HB.out.row.next hb3, HB.out.nf⟩
      have HW3 := Lib.hid hW3
      clear hOUT hno hW3 hb3 hr3
      go_upto_region 18 with fail
      rw [HW3.out]
      clear HW3
      go_wp2_with fail
      go_loopw [12, 83] (fun nv mv wx => ∃ (m g2 c2 : Nat), m ≤ no ∧ nv = .slice (some ⟨g2, 0, none⟩) (ups (MP (Lead (gS d.s) d.n u) OUT m) (d.n + 1)).length c2 ∧ mv = .int .i64 (m : Int) ∧ Hid (Ob w wx d g2 c2 (ups (MP (Lead (gS d.s) d.n u) OUT m) (d.n + 1))) ∧ Hid (RowI wx 0 g c OUT ∧ ¬ d.F g))
        (fun _ mv _ => no - (intOf mv).toNat)
      case atStart =>
        have h0 : ups (MP (Lead (gS d.s) d.n u) OUT 0) (d.n + 1) = [] := MP.zero
        exact ⟨0, W5.heap.size, 0, Nat.zero_le _, by rw [h0]; rfl, rfl, Lib.hid (by rw [h0]; exact HOB3.out), HRE3⟩
      case round =>
        obtain ⟨m, g2, c2, hm, rfl, rfl, HX, HRE⟩ := hrel
        clear HOB3 HRE3 HB q6
        by_cases hml : m < no
        · have hml2 : m < OUT.length := by rw [HNO.out]; exact hml
          obtain ⟨j, hj⟩ : ∃ j, OUT[m]? = some j := ⟨_, List.getElem?_eq_getElem hml2⟩
          have q1 : wr.cell? ⟨g, m, none⟩ = some (.int .i64 (j : Int)) := HRE.out.1.cell hj
          have hjn : j < d.n + 1 := by
            have := (ups_at_mem (P := CatL (gS d.s) d.n (ks.take i) a) (n := d.n + 1) (x := j)).1 ⟨m, by rw [HOUT.out]; exact hj⟩
            exact this.1
          have HL := Lib.hid (HCE.out wr j (by omega) (HS.out.chg HX.out.ch) HX.out.dy)
          have HM := Lib.hid (MP.more (R := Lead (gS d.s) d.n u) (n := d.n + 1) hj)
          clear hj
          obtain ⟨m1, hm1⟩ : ∃ m1, (ups (MP (Lead (gS d.s) d.n u) OUT m) (d.n + 1)).length = m1 := ⟨_, rfl⟩
          rw [hm1]
          have HM1 := Lib.hid hm1
          clear hm1
          go_wp2_with fail
          refine HL.out.mono ?_
          rintro e w3 ⟨g3, c3, rfl, hob3⟩
          obtain ⟨ho1, ho3⟩ := HX.out.then hob3
          have HO1 := Lib.hid ho1
          have HRE4 : Hid (RowI w3 0 g c OUT ∧ ¬ d.F g) := Lib.hid ⟨HRE.out.1.kept (hob3.ch.block _ HRE.out.1.base.2 HRE.out.2), HRE.out.2⟩
          have HBT := Lib.hid (rboth_any (P := MP (Lead (gS d.s) d.n u) OUT m) (Q := Lead (gS d.s) d.n u j) (N := d.n + 1) (by omega) ho1.row ho3.row)
          rw [HM1.out] at HBT
          clear hob3 ho1 ho3 HX HRE HL q1
          unfold lstE
          go_wp2_with fail
          refine HBT.out.mono ?_
          rintro e w4 ⟨g4, c4, rfl, hr4, hb4⟩
          rw [HM.out] at hr4 ⊢
          have HO4 : Hid (Ob w w4 d g4 c4 _) := Lib.hid (HO1.out.fresh hr4 hb4)
          have HRE5 : Hid (RowI w4 0 g c OUT ∧ ¬ d.F g) := Lib.hid ⟨HRE4.out.1.next hb4, HRE4.out.2⟩
          clear hr4 hb4 HBT HO1 HRE4
          go_wp2_with fail
          go_roundw
          case rel => exact ⟨m + 1, g4, c4, by omega, rfl, by go_num, HO4, HRE5⟩
          case measure => simp [intOf]; omega
        · obtain rfl : m = no := by omega
          have hE : ups (MP (Lead (gS d.s) d.n u) OUT m) (d.n + 1) = ups (CatL (gS d.s) d.n (ks.take (i + 1)) a) (d.n + 1) := by
            have := MP.all (R := Lead (gS d.s) d.n u) (P := CatL (gS d.s) d.n (ks.take i)) (Lead.le2 u) (a := a) (n := d.n)
            rw [HOUT.out, HNO.out] at this
            rw [this, HTK.out]
            exact (ups_congr (fun y => catL_last) _).symm
          rw [hE] at HX ⊢
          clear hE
          go_wp2_with fail
          go_roundw
          case rel => exact ⟨i + 1, g2, c2, by omega, rfl, by go_num, HX⟩
          case measure => simp [intOf]; omega
    · obtain rfl : i = kn := by omega
      have hE : ups (CatL (gS d.s) d.n (ks.take i) a) (d.n + 1) = lstE d t a := by
        conv => rhs; rw [HT.out]
        unfold lstE
        rw [← HKN.out, List.take_length]
        exact (ups_congr (fun y => lstE_two rfl a y) _).symm
      rw [hE] at HB ⊢
      clear hE
      go_wp2_with fail
      go_ret
      exact ⟨g, c, rfl, HB.out⟩
set_option maxHeartbeats 4000000 in
set_option maxRecDepth 100000 in
theorem reck_1 {d : Td} (hd : d.ok) {k : Nat} {t : RT} (hk : (pre d.T)[k]? = some t) (hop : t.op = 1) : ReckC d k t := by
  intro w a ha hs hy
  have hkl : k < d.N := Td.klt hk
  have hn := hd.n
  obtain ⟨p0, p1, -, -, -, -⟩ := hs.row hk
  obtain ⟨S, kp, kc, r1, r2, r3, r4, r5⟩ := hs.part k t hk
  rw [hop] at r1 r4
  have r1 : w.cell? ⟨d.bl, k * 3, none⟩ = some (.int .i64 (1)) := r1
  obtain ⟨kn, hkn⟩ : ∃ kn, t.kids.length = kn := ⟨_, rfl⟩
  rw [hkn] at r3
  obtain ⟨W1, hW1⟩ : ∃ W1, w.alloc (.cells #[.int .i64 (1), .string S, .slice kp kn kc] 121) = W1 := ⟨_, rfl⟩
  have hb1 : Below w.heap.size w W1 := by rw [← hW1]; exact (Below.refl _ _).alloc (Nat.le_refl _) _
  have hz1 : W1.heap.size = w.heap.size + 1 := by rw [← hW1]; simp
  obtain ⟨W2, hW2⟩ : ∃ W2, W1.alloc (.cells #[] 3) = W2 := ⟨_, rfl⟩
  have hb2 : Below w.heap.size w W2 := by rw [← hW2]; exact hb1.alloc (by omega) _
  have hbx : BoxP W2 w.heap.size (1) S kp kn kc := by rw [← hW2, ← hW1]; exact (Below.heap_alloc _ _ _ (by simp)).trans (mt_heap_new _ _)
  have hro : RowI W2 w.heap.size (w.heap.size + 1) 0 [] := by rw [← hW2, ← hz1]; exact RowI.new W1 [] _ (by omega) (by simp)
  have hz2 : W2.heap.size = w.heap.size + 2 := by rw [← hW2]; simp; omega
  have hc2 : Chg d.F w W2 := Chg.of_below hb2 (Nat.le_refl _)
  have HOB : Hid (Ob w W2 d (w.heap.size + 1) 0 []) := Lib.hid (Ob.start hy (Chg.refl _ _) hro hb2)
  have hnF : ¬ d.F w.heap.size := fun h => by have := hy.flt h; omega
  have HNF := Lib.hid hnF
  have HBX := Lib.hid hbx
  have HRO := Lib.hid hro
  have HB2 := Lib.hid hb2
  have HS := Lib.hid hs
  have HS2 := Lib.hid (hs.chg hc2)
  have HY := Lib.hid hy
  have HK := Lib.hid hk
  have HKN := Lib.hid hkn
  have HR4 := Lib.hid r4
  have HR5 := Lib.hid r5
  have HW2 : Hid ((w.alloc (.cells #[.int .i64 (1), .string S, .slice kp kn kc] 121)).alloc (.cells #[] 3) = W2) := Lib.hid (by rw [hW1]; exact hW2)
  obtain ⟨x0, x1, x2⟩ := hbx.c0
  have b0 : W2.cell? ⟨d.p, 0, none⟩ = some (.string d.s) := cell_kept p0 (hc2.block _ hs.plt hs.fp)
  have HZ2 := Lib.hid hz2
  clear hW1 hb1 hW2 hb2 hz1 hz2 hbx hro hc2 hnF hs hy hk r4 r5 hkn p0
  go_enter Tryd.func62, Tryd.ntmps62
  go_upto_region 3 with fail
  rw [HW2.out]
  clear HW2 p1 r1 r2 r3
  have HT : Hid (t = .mk 1 t.set t.kids) := Lib.hid (lstE_mk hop)
  clear hop x2
  go_wp2_with fail
  go_loopw [9] (fun iv wr => ∃ i : Nat, i ≤ S.size ∧ S.size ≤ 256 ∧ iv = .int .i64 (i : Int) ∧ (i = 0 ∨ a < d.n) ∧ Hid (∀ (m : Nat) (h : m < S.size) (h2 : a < d.s.size), m < i → S[m] ≠ d.s[a]) ∧ Hid (Below W2.heap.size W2 wr))
    (fun iv _ => S.size - (intOf iv).toNat)
  case atStart =>
    have h256 : S.size ≤ 256 := by
      obtain ⟨-, h⟩ := HR4.out
      obtain ⟨f, -, h2, -⟩ := h rfl
      exact h2
    exact ⟨0, Nat.zero_le _, h256, rfl, .inl rfl, Lib.hid fun m h h2 h3 => by omega, Lib.hid (Below.refl _ _)⟩
  case round =>
    obtain ⟨i, hi, h256, rfl, hia, HM, HW⟩ := hrel
    have hz2 := HZ2.out
    have hlt2 : d.p < W2.heap.size := HS2.out.plt
    have hwl : w.heap.size < W2.heap.size := by omega
    have y1 : wr.cell? ⟨w.heap.size, 1, none⟩ = some (.string S) := cell_kept x1 (HW.out.block _ hwl)
    have y0 : wr.cell? ⟨d.p, 0, none⟩ = some (.string d.s) := cell_kept b0 (HW.out.block _ hlt2)
    have HROW : Hid (Ob w wr d (w.heap.size + 1) 0 []) := Lib.hid (HOB.out.next HW.out)
    clear hz2 hlt2 hwl
    by_cases hil : i < S.size
    · by_cases han : a < d.s.size
      · have hani : (a : Int) < (d.s.size : Int) := by omega
        have hili : (i : Int) < (S.size : Int) := by omega
        by_cases hq : S[i] = d.s[a]
        · have q1 : ((S[i].toNat : Int) == (d.s[a].toNat : Int)) = true := by rw [hq]; simp
          have HE : Hid (lstE d t a = [a + 1]) := Lib.hid (by
            rw [HT.out]; unfold lstE
            have hg : gS d.s t.set a := (set_has HR4.out han).2 ⟨i, hil, hq⟩
            rw [ups_congr (Q := fun y => a + 1 = y) fun y => by
              rw [lead_byte]
              exact ⟨fun h => h.2.2.symm, fun h => ⟨hg, han, h.symm⟩⟩]
            exact ups_one han)
          clear hq hia
          go_wp2_with fail
          go_quiet (fail)
          go_wp2_with fail
          go_ret
          refine ⟨_, 1, by rw [HE.out]; rfl, ?_⟩
          rw [HE.out]
          exact HROW.out.fresh (w' := (wr.drewN _).alloc (.cells #[.int .i64 ((a : Int) + 1)] 3)) (RowI.new _ [a + 1] _ (Nat.le_refl _) (by simp)) ((below_dn (Below.refl _ _) _).alloc (Nat.le_refl _) _)
        · have q1 : ((S[i].toNat : Int) == (d.s[a].toNat : Int)) = false := by
            rw [Bool.eq_false_iff]; intro h
            have := eq_of_beq h
            exact hq (UInt8.toNat_inj.1 (by omega))
          have HQ := Lib.hid hq
          clear hq hia
          go_wp2_with fail
          go_quiet (fail)
          go_wp2_with fail
          go_roundw
          case rel => exact ⟨i + 1, by omega, h256, by go_num, .inr han, Lib.hid fun m h h2 h3 => by
            by_cases e : m = i
            · subst e; exact HQ.out
            · exact HM.out m h h2 (by omega), Lib.hid (below_dn HW.out _)⟩
          case measure => simp [intOf]; omega
      · have hani : ¬ (a : Int) < (d.s.size : Int) := by omega
        have hili : (i : Int) < (S.size : Int) := by omega
        have HAN := Lib.hid han
        clear han hia
        have HE : Hid (lstE d t a = []) := Lib.hid (by
          rw [HT.out]; unfold lstE
          exact ups_zero fun y _ h => by rw [lead_byte] at h; exact HAN.out h.2.1)
        go_wp2_with fail
        go_ret
        exact ⟨_, _, by rw [HE.out]; rfl, HROW.out.as HE.out.symm⟩
    · obtain rfl : i = S.size := by omega
      have HE0 : Hid (∀ y, ¬ Lead (gS d.s) d.n (.mk 1 t.set t.kids) a y) := Lib.hid fun y h => by
        rw [lead_byte] at h
        obtain ⟨m, h1, h2⟩ := (set_has HR4.out h.2.1).1 h.1
        exact HM.out m h1 h.2.1 h1 h2
      clear hia
      have HE : Hid (lstE d t a = []) := Lib.hid (by
        rw [HT.out]; unfold lstE
        exact ups_zero fun y _ h => HE0.out y h)
      go_wp2_with fail
      go_ret
      exact ⟨_, _, by rw [HE.out]; rfl, HROW.out.as HE.out.symm⟩
end Go.Proofs.YtjjejcgpeefclaaDoor
