/-
  CONTRACT of layer 8's Keys: a new row of the keys, in their order.
-/
import Derived.Test.YtjnhaglcigpknaaDoorArEach
namespace Go.Proofs.YtjnhaglcigpknaaDoor
open Go.RowKit Go.Shelf
attribute [local go_sem] Oper.semAt_some

/-- A variable (block bl) that holds a row of texts of the call's own; both lie in C. -/
structure Col (W : World) (base bl : Nat) (C : Nat → Prop) (xs : List ByteArray) (g c : Nat) : Prop where
  var : W.cell? ⟨bl, 0, none⟩ = some (.slice (some ⟨g, 0, none⟩) xs.length c)
  fro : W.frozen? ⟨bl, 0, none⟩ = false
  row : W.ownsRow base 9 1 (.slice (some ⟨g, 0, none⟩) xs.length c) xs.length (xs.map Value.string)
  cb : C bl
  cg : C g
  ne : g ≠ bl
theorem own_keptA {w w' : World} {B : Nat} {e : TypeId} {z : Nat} {v : Value} {n : Nat} {xs : List Value} (h : w.ownsRow B e z v n xs) (hk : ∀ g, v.ownBlock = some g → w'.heap[g]? = w.heap[g]?) : w'.ownsRow B e z v n xs := by
  refine ⟨h.1, ?_⟩
  rcases h.2 with h2 | ⟨g, cap, cur, rfl, hB, hgg, h3⟩
  · exact .inl h2
  · exact .inr ⟨g, cap, cur, rfl, hB, (hk g rfl).trans hgg, h3⟩
theorem Col.same {A B : World} {base bl g c : Nat} {C : Nat → Prop} {xs : List ByteArray} (h : Col A base bl C xs g c) (hs : Same C A B) : Col B base bl C xs g c :=
  ⟨(hs.cell (p := ⟨bl, 0, none⟩) h.cb).trans h.var, (hs.frozen (p := ⟨bl, 0, none⟩) h.cb).trans h.fro, own_keptA h.row (fun g' hg' => by injection hg' with hg'; subst hg'; exact hs.block _ h.cg), h.cb, h.cg, h.ne⟩
theorem Col.next {A B : World} {base bl g c : Nat} {C : Nat → Prop} {xs : List ByteArray} (h : Col A base bl C xs g c) (hb : Below A.heap.size A B) (hC : ∀ k, C k → k < A.heap.size) : Col B base bl C xs g c := h.same (Same.below hb hC)
/-- What a push leaves. -/
def Psh (W W3 : World) (base bl : Nat) (C C' : Nat → Prop) (xs : List ByteArray) (g c : Nat) : Prop :=
  (∀ k, C' k → C k ∨ W.heap.size ≤ k) ∧ (∀ k, C' k → k < W3.heap.size) ∧ Came C W W3 ∧ Col W3 base bl C' xs g c
theorem Psh.from {W w9 W3 : World} {base bl g c : Nat} {C C' : Nat → Prop} {xs : List ByteArray} (h : Psh w9 W3 base bl C C' xs g c) (hb : Below W.heap.size W w9) (_hC : ∀ k, C k → k < W.heap.size) : Psh W W3 base bl C C' xs g c :=
  ⟨fun k hk => (h.1 k hk).imp id (fun h2 => Nat.le_trans hb.size h2), h.2.1, (Came.of_below hb (Nat.le_refl _)).trans h.2.2.1 (fun _ h2 => .inl h2), h.2.2.2⟩
set_option maxRecDepth 100000 in
theorem Tryd.infoStr : (Tryd.prog.info? 9).map (fun i => (i.zero, i.size, i.bytes)) = some (some (.string ⟨#[]⟩), 1, 16) := by kernel_rfl
theorem info_parts {o : Option TypeInfo} {z : Value} {s b : Nat} (h : o.map (fun i => (i.zero, i.size, i.bytes)) = some (some z, s, b)) : ∃ i, o = some i ∧ i.zero = some z ∧ i.size = s ∧ i.bytes = b := by
  cases o with
  | none => cases h
  | some i => simp at h; exact ⟨i, rfl, h.1, h.2.1, h.2.2⟩
set_option maxRecDepth 100000 in
theorem Col.push {W : World} {base bl g c : Nat} {C : Nat → Prop} {xs : List ByteArray} (h : Col W base bl C xs g c) (x : ByteArray) (hl : xs.length ≤ 2000) (hC : ∀ k, C k → k < W.heap.size) (hbase : base ≤ W.heap.size) :
    ∃ W2 g' c', (Builtin.append_ #[65, 65] 65 #[.slice (some ⟨g, 0, none⟩) xs.length c, .slice (some ⟨W.heap.size, 0, none⟩) 1 1]).run Tryd.prog (W.alloc (.cells #[.string x] 9)) = .ok (.slice (some ⟨g', 0, none⟩) (xs.length + 1) c') W2 ∧
      W2.cell? ⟨bl, 0, none⟩ = some (.slice (some ⟨g, 0, none⟩) xs.length c) ∧ W2.frozen? ⟨bl, 0, none⟩ = false ∧ Psh W (W2.setCell ⟨bl, 0, none⟩ (.slice (some ⟨g', 0, none⟩) (xs.length + 1) c')) base bl C (fun k => C k ∨ k = g') (xs ++ [x]) g' c' := by
  obtain ⟨i0, hi, hz0, hz1, hz2⟩ := info_parts Tryd.infoStr
  obtain ⟨v', W2, hr, hown, hgrow, hnil, hat⟩ := run_append_own_at (P := Tryd.prog) (W.alloc (.cells #[.string x] 9)) base 65 65 9 i0 (.string ⟨#[]⟩) 1 16 Tryd.underlying65 hi hz0 hz1 hz2 rfl (by decide) _ _ _ (h.row.alloc _) ⟨W.heap.size, 0, none⟩ 1 1 [.string x] rfl (fun j u hj => by
    match j, hj with
    | 0, hj => simp at hj; subst hj; simp [Addr.add, go_sem]
    | n + 1, hj => simp at hj) (by simp [Value.oneCell']) (by unfold maxLen; omega) (by omega) (by simp; omega)
  obtain ⟨g', c', rfl⟩ : ∃ g' c', v' = .slice (some ⟨g', 0, none⟩) (xs.length + 1) c' := by
    rcases hown.2 with ⟨_, h0⟩ | ⟨g', cap, _, rfl, _⟩
    · omega
    · exact ⟨g', cap, rfl⟩
  have hg' : g' = g ∨ g' = W.heap.size + 1 := by
    rcases hat with h2 | h2
    · left; injection h2
    · right; injection h2 with h2; have h3 : g' = (W.alloc (.cells #[.string x] 9)).heap.size := h2; rw [h3]; simp
  have hbl := hC bl h.cb
  have hgl := (hown.lt g' rfl).2
  have eb : W2.heap[bl]? = W.heap[bl]? := (hgrow.block bl (by simp; omega) (fun e => h.ne (by injection e with e; exact e.symm))).trans (Below.heap_alloc W _ bl hbl)
  have hgL : g' ≠ bl := by
    rcases hg' with h2 | h2
    · rw [h2]; exact h.ne
    · omega
  have hs2 : W.heap.size + 1 ≤ W2.heap.size := by have := hgrow.size; simpa using this
  have v2 : W2.cell? ⟨bl, 0, none⟩ = some (.slice (some ⟨g, 0, none⟩) xs.length c) := (World.cell?_of_block (w := W) (a := ⟨bl, 0, none⟩) eb).trans h.var
  have f2 : W2.frozen? ⟨bl, 0, none⟩ = false := (World.frozen?_of_block (w := W) (a := ⟨bl, 0, none⟩) eb).trans h.fro
  refine ⟨W2, g', c', hr, v2, f2, fun k hk => ?_, fun k hk => ?_, ⟨hgrow.os, hgrow.tape, hgrow.output, by rw [World.size_setCell]; omega, fun k hk hn => ?_⟩, ⟨?_, ?_, ?_, .inl h.cb, .inr rfl, hgL⟩⟩
  · rcases hk with hk | rfl
    · exact .inl hk
    · rcases hg' with h2 | h2
      · rw [h2]; exact .inl h.cg
      · exact .inr (by omega)
  · rw [World.size_setCell]
    rcases hk with hk | rfl
    · have := hC k hk; omega
    · exact hgl
  · have n1 : k ≠ bl := fun e => hn (e ▸ h.cb)
    have n2 : k ≠ g := fun e => hn (e ▸ h.cg)
    exact (Below.heap_setCell W2 ⟨bl, 0, none⟩ _ k n1).trans ((hgrow.block k (by simp; omega) (fun e => n2 (by injection e))).trans (Below.heap_alloc W _ k hk))
  · rw [List.length_append, List.length_singleton]
    exact World.cell?_setCell_same _ _ _ v2
  · rw [World.frozen?_setCell]; exact f2
  · rw [List.length_append, List.length_singleton, List.map_append]
    exact own_keptA hown fun k hk => by injection hk with hk; subst hk; exact Below.heap_setCell W2 ⟨bl, 0, none⟩ _ _ hgL
theorem wpIn_append {F : Fence} {n : Nat} {P : Program} {o : Oper} {a : Act} {w w' : World} {K : Act → World → Prop} {Q : Exit → Act → World → Prop} (s x : Operand) (t : TypeId)
    (ho : o.op = .call { callee := .builtin .append, args := #[s, x], argTypes := #[t, t] }) {v' : Value} (hr : (Builtin.append_ #[t, t] o.type #[a.eval s, a.eval x]).run P w = .ok v' w') (h : K (a.put o.dst v') w') : Oper.wpIn F n P o a w K Q := by
  unfold Oper.wpIn
  refine ⟨by simp [Oper.about, ho, resolve, Target.leads, Sem.run_pure], ?_⟩
  rw [Oper.semAt_plain F _ _ (by rw [ho]; intro c hc'; cases hc')]
  simp [execOp, ho, resolve, invoke, builtin, hr, Result.andThen]
  exact h
def KyPost (ks : List ByteArray) (w : World) (e : Ending) (w' : World) : Prop :=
  ∃ v, e = .returned v ∧ w'.ownsRow w.heap.size 9 1 v ks.length (ks.map Value.string) ∧ Below w.heap.size w w'
theorem ent_key {w : World} {b : Nat} {mm : Option Nat} {L : List En} (h : AV w b mm L) {e : En} (he : e ∈ L) : w.cell? ⟨e.g, 0, none⟩ = some (.string e.key) ∧ e.g < w.heap.size := by
  obtain ⟨h1, p, q, h2⟩ := h.lnk.lt e he
  exact ⟨block_cell h2, h1⟩
set_option maxRecDepth 100000 in
theorem make_str (n : Nat) (hn : n ≤ 1000) (W : World) : ∃ cur : Array Value, cur.size = n ∧ (Instr.makeSlice 65 (.int .i64 0) (.int .i64 (n : Int))).run Tryd.prog W = .ok (.slice (some ⟨W.heap.size, 0, none⟩) 0 n) (W.alloc (.cells cur 9)) := by
  obtain ⟨i0, hi, hz0, hz1, hz2⟩ := info_parts Tryd.infoStr
  have h := run_make (P := Tryd.prog) W 65 9 i0 _ Tryd.underlying65 hi hz0 .i64 .i64 0 (n : Int) (by omega) (by omega) (by rw [hz2]; omega) (by omega)
  rw [hz1, Int.toNat_natCast] at h
  exact ⟨_, by rw [size_madeCells]; omega, h⟩
set_option maxHeartbeats 4000000 in
set_option maxRecDepth 100000 in
theorem keys_any {w : World} {b : Nat} {mm : Option Nat} {L : List En} (h : AV w b mm L) (hs : ∀ e ∈ L, e.key.size ≤ 1000000) :
    Calls Tryd.prog 29 #[.pointer (some ⟨b, 0, none⟩)] w (KyPost (L.map En.key) w) := by
  have hlen := h.few
  have HA := Lib.hid h
  have CK := Lib.hid fun (x : En) (hx : x ∈ L) W => clone_any x.key W (by have := hs x hx; omega)
  clear h hs
  refine (callsIn_wide (n := 6)).1 ?_
  refine callsIn_of_wp_marks Tryd.func29 rfl trivial ?_ rfl
  simp only [Tryd.ntmps29, List.size_toArray, List.length_cons, List.length_nil, Nat.reduceAdd, Nat.reduceSub, Array.replicate_succ, Array.replicate_zero, List.push_toArray, List.append_toArray, List.nil_append, List.cons_append]
  have t1 : Fence.wide.fn 10 := trivial
  have t2 : Fence.wide.fn 18 := trivial
  have t3 : Fence.wide.fn 43 := trivial
  gi_wp2_with fail
  refine (callsIn_wide.2 (len_any HA.out)).mono ?_
  rintro e w1 ⟨rfl, hb1⟩
  obtain ⟨cur, hcs, hmk⟩ := make_str L.length hlen w1
  have HA1 := Lib.hid (HA.out.next hb1)
  have hn0 : 0 ≤ (L.length : Int) := by omega
  have HOWN := Lib.hid fun k (hk : Own b mm L k) => Nat.lt_of_lt_of_le (HA.out.own_lt hk) hb1.size
  gi_wp2_with fail
  have hb4 : Below w1.heap.size w1 ((w1.alloc (.cells cur 9)).alloc (.cells #[.slice (some ⟨w1.heap.size, 0, none⟩) 0 L.length] 65)) := ((Below.refl _ _).alloc (Nat.le_refl _) _).alloc (by simp) _
  have hz4 : ((w1.alloc (.cells cur 9)).alloc (.cells #[.slice (some ⟨w1.heap.size, 0, none⟩) 0 L.length] 65)).heap.size = w1.heap.size + 2 := by simp
  have col4 : Col ((w1.alloc (.cells cur 9)).alloc (.cells #[.slice (some ⟨w1.heap.size, 0, none⟩) 0 L.length] 65)) w.heap.size (w1.heap.size + 1) (fun k => k = w1.heap.size ∨ k = w1.heap.size + 1) [] w1.heap.size L.length := by
    have h := World.ownsRow_made (base := w.heap.size) (e := 9) (size := 1) w1 cur L.length hb1.size (by unfold maxLen; omega) (by omega)
    exact ⟨by simp [go_sem], by simp [go_sem], h.alloc _, .inr rfl, .inl rfl, by omega⟩
  have HB4 := Lib.hid (hb1.trans (hb4.mono hb1.size))
  have HA4 := Lib.hid (HA1.out.next hb4)
  have hw1 := hb1.size
  generalize (w1.alloc (.cells cur 9)).alloc (.cells #[.slice (some ⟨w1.heap.size, 0, none⟩) 0 L.length] 65) = W4 at *
  obtain ⟨bl, hbl⟩ : ∃ bl, bl = w1.heap.size + 1 := ⟨_, rfl⟩
  obtain ⟨g0, hg0⟩ : ∃ g0, g0 = w1.heap.size := ⟨_, rfl⟩
  rw [← hbl] at col4 ⊢
  rw [← hg0] at col4 ⊢
  have HL := Lib.hid (And.intro hbl hg0)
  have HZ := Lib.hid hz4
  clear hb1 hb4 hmk hcs HA1 HA hbl hg0 hz4
  refine (callsIn_wide.2 (each_call b _)).mono ?_
  rintro e w5 ⟨bs, rfl, hbs0, hbs1, hb5⟩
  have hbs5 : bs < w5.heap.size := World.block_lt_of_cell? _ _ hbs1
  have col5 := col4.next hb5 (fun k hk => by have := HL.out; have := HZ.out; rcases hk with rfl | rfl <;> omega)
  have HA5 := Lib.hid (HA4.out.next hb5)
  have HB5 := Lib.hid (HB4.out.trans (hb5.mono HB4.out.size))
  have hz5 := hb5.size
  have HOW := Lib.hid fun k (hk : Own b mm L k) => HA4.out.own_lt hk
  have HOW1 : Hid (∀ k, Own b mm L k → k < w1.heap.size) := Lib.hid HOWN.out
  clear hb5 col4 HB4
  gi_wp2_with fail
  refine wpIn_rangeC (F := Fence.wide) rfl (by omega) (gf := 34) (lb := #[.pointer (some ⟨bs, 0, none⟩)]) rfl trivial (enters_of Tryd.func34 (by kernel_rfl) rfl)
    (each_seq bs _ (by omega) w5 hbs1 HA5.out) (Below.refl _ _) (fun _ => rfl) (fun k => k = g0 ∨ k = bl) (fun k hk hc => by
      have h1 := HL.out
      have h2 := HZ.out
      have h3 : k = bs ∨ k < w1.heap.size := hk.imp id (HOW1.out k)
      rcases hc with h | h <;> rcases h3 with h4 | h4 <;> omega) (fun k hk => by
      rcases hk with rfl | hk
      · exact hbs5
      · have := HOW.out k hk; omega) (fun k hc => by have := HL.out; have := HZ.out; rcases hc with h | h <;> omega)
    (fun (pre : List En) C W => (∃ g c, Col W w.heap.size bl C (pre.map En.key) g c) ∧ ∀ k, C k → k < W.heap.size) (fun _ _ _ _ => False) (fun pre C A B h hs => ⟨by obtain ⟨g, c, h1⟩ := h.1; exact ⟨g, c, h1.same hs⟩, fun k hk => Nat.lt_of_lt_of_le (h.2 k hk) hs.size⟩) (fun _ _ _ _ _ h _ => h) ⟨⟨g0, L.length, col5⟩, fun k hc => by have := HL.out; have := HZ.out; rcases hc with h | h <;> omega⟩ ?a1 ?assign ?body ?done ?stop
  case assign =>
    intro l' x W K hK
    gi_wp2
    exact hK
  case stop => rintro D c pre C W _ h; exact h.elim
  case body =>
    rintro l' pre x C W ⟨⟨g, c, hcol⟩, hC⟩ hcm hf hlen2 hsp
    have hxL : x ∈ L := hsp.subset (by simp)
    obtain ⟨kx5, hxg⟩ := ent_key HA5.out hxL
    have hx0 : ¬ (x.g = g0 ∨ x.g = bl) := by
      have h1 := HL.out
      have h3 := HOW1.out x.g (.inr (.inr ⟨x, hxL, rfl⟩))
      omega
    have kx : W.cell? ⟨x.g, 0, none⟩ = some (.string x.key) := (hcm.cell (a := ⟨x.g, 0, none⟩) hxg hx0).trans kx5
    obtain ⟨ks, hks⟩ : ∃ ks, pre.map En.key = ks := ⟨_, rfl⟩
    have hkl : ks.length ≤ 2000 := by rw [← hks, List.length_map]; omega
    rw [hks] at hcol
    have hv := hcol.var
    have hwW : w.heap.size ≤ W.heap.size := by have := hcm.size; have := HZ.out; omega
    have CKX := Lib.hid fun W => CK.out x hxL W
    have HKS := Lib.hid hks
    have HCOL := Lib.hid hcol
    have HC := Lib.hid hC
    clear hcol hC hcm hf hlen2 hsp kx5 hxg hx0 hks
    generalize x.g = xg at *
    gi_wp2_with fail
    refine wpIn_region_any (by kernel_rfl) ?_
    change wpAnyIn _ _ _ _ _ _ _ _ _ (World.drew _)
    refine wpAnyIn_ready (rs := [0, 1]) (by kernel_rfl) (by simp) ?_
    refine AllReadyIn.cons (o := _) rfl (fun K hK => ?_) ?_
    · go_simp
      refine hK _ _ ?_
      clear hK K
      try simp only [List.getElem_toArray, List.getElem_cons_zero, List.getElem_cons_succ, Act.put, List.setIfInBounds_toArray, List.set_cons_zero, List.set_cons_succ]
      refine wpAnyIn_ready (rs := [1]) (by kernel_rfl) (by simp) ?_
      refine AllReadyIn.cons (o := _) rfl (fun K hK => ?_) ?_
      · go_simp
        refine hK _ _ ?_
        clear hK K
        try simp only [List.getElem_toArray, List.getElem_cons_zero, List.getElem_cons_succ, Act.put, List.setIfInBounds_toArray, List.set_cons_zero, List.set_cons_succ]
        refine wpAnyIn_ready (rs := [2]) (by kernel_rfl) (by simp) ?_
        refine AllReadyIn.cons (o := _) rfl (fun K hK => ?_) ?_
        · go_simp
          refine hK _ _ ?_
          clear hK K
          try simp only [List.getElem_toArray, List.getElem_cons_zero, List.getElem_cons_succ, Act.put, List.setIfInBounds_toArray, List.set_cons_zero, List.set_cons_succ]
          refine wpAnyIn_ready (rs := [3]) (by kernel_rfl) (by simp) ?_
          refine AllReadyIn.cons (o := _) rfl (fun K hK => ?_) ?_
          · go_simp
            refine hK _ _ ?_
            clear hK K
            try simp only [List.getElem_toArray, List.getElem_cons_zero, List.getElem_cons_succ, Act.put, List.setIfInBounds_toArray, List.set_cons_zero, List.set_cons_succ]
            refine wpAnyIn_ready (rs := [4]) (by kernel_rfl) (by simp) ?_
            refine AllReadyIn.cons (o := _) rfl (fun K hK => ?_) ?_
            · go_simp
              refine hK _ _ ?_
              clear hK K
              try simp only [List.getElem_toArray, List.getElem_cons_zero, List.getElem_cons_succ, Act.put, List.setIfInBounds_toArray, List.set_cons_zero, List.set_cons_succ]
              refine wpAnyIn_ready (rs := [5]) (by kernel_rfl) (by simp) ?_
              refine AllReadyIn.cons (o := _) rfl (fun K hK => ?_) ?_
              · go_simp
                refine (callsIn_wide.2 (CKX.out _)).mono ?_
                rintro e1 w9 ⟨rfl, hb9⟩
                have hb9' : Below W.heap.size W w9 := ⟨hb9.os, hb9.tape, hb9.output, hb9.size, hb9.block⟩
                obtain ⟨W2, g', c', hr, hv2, hf2, hP⟩ := (HCOL.out.next hb9' HC.out).push x.key hkl (fun k hk => Nat.lt_of_lt_of_le (HC.out k hk) hb9'.size) (Nat.le_trans hwW hb9'.size)
                have hv9 := (HCOL.out.next hb9' HC.out).var
                have hv9a := ((HCOL.out.next hb9' HC.out).next ((Below.refl w9.heap.size w9).alloc (Nat.le_refl _) (.cells #[.string x.key] 9)) (fun k hk => Nat.lt_of_lt_of_le (HC.out k hk) hb9'.size)).var
                have HP := Lib.hid (hP.from hb9' HC.out)
                clear hP hb9
                refine hK _ _ ?_
                clear hK K
                try simp only [List.getElem_toArray, List.getElem_cons_zero, List.getElem_cons_succ, Act.put, List.setIfInBounds_toArray, List.set_cons_zero, List.set_cons_succ]
                refine wpAnyIn_ready (rs := [6]) (by kernel_rfl) (by simp) ?_
                refine AllReadyIn.cons (o := _) rfl (fun K hK => ?_) ?_
                · go_simp
                  refine hK _ _ ?_
                  clear hK K
                  try simp only [List.getElem_toArray, List.getElem_cons_zero, List.getElem_cons_succ, Act.put, List.setIfInBounds_toArray, List.set_cons_zero, List.set_cons_succ]
                  refine wpAnyIn_ready (rs := [7]) (by kernel_rfl) (by simp) ?_
                  refine AllReadyIn.cons (o := _) rfl (fun K hK => ?_) ?_
                  · rw [if_pos (by rfl)]
                    refine wpIn_append (.tmp 11) (.tmp 17) 65 rfl hr (hK _ _ ?_)
                    clear hK K
                    try simp only [List.getElem_toArray, List.getElem_cons_zero, List.getElem_cons_succ, Act.put, List.setIfInBounds_toArray, List.set_cons_zero, List.set_cons_succ]
                    refine wpAnyIn_ready (rs := [8]) (by kernel_rfl) (by simp) ?_
                    refine AllReadyIn.cons (o := _) rfl (fun K hK => ?_) ?_
                    · go_simp
                      refine hK _ _ ?_
                      clear hK K
                      try simp only [List.getElem_toArray, List.getElem_cons_zero, List.getElem_cons_succ, Act.put, List.setIfInBounds_toArray, List.set_cons_zero, List.set_cons_succ]
                      refine wpAnyIn_done (by kernel_rfl) ?_ _
                      gi_wp2
                      exact ⟨_, HP.out.1, HP.out.2.1, HP.out.2.2.1, ⟨_, _, by rw [List.map_append, HKS.out]; exact HP.out.2.2.2⟩, HP.out.2.1⟩
                    exact AllReadyIn.nil
                  exact AllReadyIn.nil
                exact AllReadyIn.nil
              exact AllReadyIn.nil
            exact AllReadyIn.nil
          exact AllReadyIn.nil
        exact AllReadyIn.nil
      exact AllReadyIn.nil
    refine AllReadyIn.cons (o := _) rfl (fun K hK => ?_) ?_
    · go_simp
      refine hK _ _ ?_
      clear hK K
      try simp only [List.getElem_toArray, List.getElem_cons_zero, List.getElem_cons_succ, Act.put, List.setIfInBounds_toArray, List.set_cons_zero, List.set_cons_succ]
      refine wpAnyIn_ready (rs := [0, 2]) (by kernel_rfl) (by simp) ?_
      refine AllReadyIn.cons (o := _) rfl (fun K hK => ?_) ?_
      · go_simp
        refine hK _ _ ?_
        clear hK K
        try simp only [List.getElem_toArray, List.getElem_cons_zero, List.getElem_cons_succ, Act.put, List.setIfInBounds_toArray, List.set_cons_zero, List.set_cons_succ]
        refine wpAnyIn_ready (rs := [2]) (by kernel_rfl) (by simp) ?_
        refine AllReadyIn.cons (o := _) rfl (fun K hK => ?_) ?_
        · go_simp
          refine hK _ _ ?_
          clear hK K
          try simp only [List.getElem_toArray, List.getElem_cons_zero, List.getElem_cons_succ, Act.put, List.setIfInBounds_toArray, List.set_cons_zero, List.set_cons_succ]
          refine wpAnyIn_ready (rs := [3]) (by kernel_rfl) (by simp) ?_
          refine AllReadyIn.cons (o := _) rfl (fun K hK => ?_) ?_
          · go_simp
            refine hK _ _ ?_
            clear hK K
            try simp only [List.getElem_toArray, List.getElem_cons_zero, List.getElem_cons_succ, Act.put, List.setIfInBounds_toArray, List.set_cons_zero, List.set_cons_succ]
            refine wpAnyIn_ready (rs := [4]) (by kernel_rfl) (by simp) ?_
            refine AllReadyIn.cons (o := _) rfl (fun K hK => ?_) ?_
            · go_simp
              refine hK _ _ ?_
              clear hK K
              try simp only [List.getElem_toArray, List.getElem_cons_zero, List.getElem_cons_succ, Act.put, List.setIfInBounds_toArray, List.set_cons_zero, List.set_cons_succ]
              refine wpAnyIn_ready (rs := [5]) (by kernel_rfl) (by simp) ?_
              refine AllReadyIn.cons (o := _) rfl (fun K hK => ?_) ?_
              · go_simp
                refine (callsIn_wide.2 (CKX.out _)).mono ?_
                rintro e1 w9 ⟨rfl, hb9⟩
                have hb9' : Below W.heap.size W w9 := ⟨hb9.os, hb9.tape, hb9.output, hb9.size, hb9.block⟩
                obtain ⟨W2, g', c', hr, hv2, hf2, hP⟩ := (HCOL.out.next hb9' HC.out).push x.key hkl (fun k hk => Nat.lt_of_lt_of_le (HC.out k hk) hb9'.size) (Nat.le_trans hwW hb9'.size)
                have hv9 := (HCOL.out.next hb9' HC.out).var
                have hv9a := ((HCOL.out.next hb9' HC.out).next ((Below.refl w9.heap.size w9).alloc (Nat.le_refl _) (.cells #[.string x.key] 9)) (fun k hk => Nat.lt_of_lt_of_le (HC.out k hk) hb9'.size)).var
                have HP := Lib.hid (hP.from hb9' HC.out)
                clear hP hb9
                refine hK _ _ ?_
                clear hK K
                try simp only [List.getElem_toArray, List.getElem_cons_zero, List.getElem_cons_succ, Act.put, List.setIfInBounds_toArray, List.set_cons_zero, List.set_cons_succ]
                refine wpAnyIn_ready (rs := [6]) (by kernel_rfl) (by simp) ?_
                refine AllReadyIn.cons (o := _) rfl (fun K hK => ?_) ?_
                · go_simp
                  refine hK _ _ ?_
                  clear hK K
                  try simp only [List.getElem_toArray, List.getElem_cons_zero, List.getElem_cons_succ, Act.put, List.setIfInBounds_toArray, List.set_cons_zero, List.set_cons_succ]
                  refine wpAnyIn_ready (rs := [7]) (by kernel_rfl) (by simp) ?_
                  refine AllReadyIn.cons (o := _) rfl (fun K hK => ?_) ?_
                  · rw [if_pos (by rfl)]
                    refine wpIn_append (.tmp 11) (.tmp 17) 65 rfl hr (hK _ _ ?_)
                    clear hK K
                    try simp only [List.getElem_toArray, List.getElem_cons_zero, List.getElem_cons_succ, Act.put, List.setIfInBounds_toArray, List.set_cons_zero, List.set_cons_succ]
                    refine wpAnyIn_ready (rs := [8]) (by kernel_rfl) (by simp) ?_
                    refine AllReadyIn.cons (o := _) rfl (fun K hK => ?_) ?_
                    · go_simp
                      refine hK _ _ ?_
                      clear hK K
                      try simp only [List.getElem_toArray, List.getElem_cons_zero, List.getElem_cons_succ, Act.put, List.setIfInBounds_toArray, List.set_cons_zero, List.set_cons_succ]
                      refine wpAnyIn_done (by kernel_rfl) ?_ _
                      gi_wp2
                      exact ⟨_, HP.out.1, HP.out.2.1, HP.out.2.2.1, ⟨_, _, by rw [List.map_append, HKS.out]; exact HP.out.2.2.2⟩, HP.out.2.1⟩
                    exact AllReadyIn.nil
                  exact AllReadyIn.nil
                exact AllReadyIn.nil
              exact AllReadyIn.nil
            exact AllReadyIn.nil
          exact AllReadyIn.nil
        exact AllReadyIn.nil
      refine AllReadyIn.cons (o := _) rfl (fun K hK => ?_) ?_
      · go_simp
        refine hK _ _ ?_
        clear hK K
        try simp only [List.getElem_toArray, List.getElem_cons_zero, List.getElem_cons_succ, Act.put, List.setIfInBounds_toArray, List.set_cons_zero, List.set_cons_succ]
        refine wpAnyIn_ready (rs := [0, 3]) (by kernel_rfl) (by simp) ?_
        refine AllReadyIn.cons (o := _) rfl (fun K hK => ?_) ?_
        · go_simp
          refine hK _ _ ?_
          clear hK K
          try simp only [List.getElem_toArray, List.getElem_cons_zero, List.getElem_cons_succ, Act.put, List.setIfInBounds_toArray, List.set_cons_zero, List.set_cons_succ]
          refine wpAnyIn_ready (rs := [3]) (by kernel_rfl) (by simp) ?_
          refine AllReadyIn.cons (o := _) rfl (fun K hK => ?_) ?_
          · go_simp
            refine hK _ _ ?_
            clear hK K
            try simp only [List.getElem_toArray, List.getElem_cons_zero, List.getElem_cons_succ, Act.put, List.setIfInBounds_toArray, List.set_cons_zero, List.set_cons_succ]
            refine wpAnyIn_ready (rs := [4]) (by kernel_rfl) (by simp) ?_
            refine AllReadyIn.cons (o := _) rfl (fun K hK => ?_) ?_
            · go_simp
              refine hK _ _ ?_
              clear hK K
              try simp only [List.getElem_toArray, List.getElem_cons_zero, List.getElem_cons_succ, Act.put, List.setIfInBounds_toArray, List.set_cons_zero, List.set_cons_succ]
              refine wpAnyIn_ready (rs := [5]) (by kernel_rfl) (by simp) ?_
              refine AllReadyIn.cons (o := _) rfl (fun K hK => ?_) ?_
              · go_simp
                refine (callsIn_wide.2 (CKX.out _)).mono ?_
                rintro e1 w9 ⟨rfl, hb9⟩
                have hb9' : Below W.heap.size W w9 := ⟨hb9.os, hb9.tape, hb9.output, hb9.size, hb9.block⟩
                obtain ⟨W2, g', c', hr, hv2, hf2, hP⟩ := (HCOL.out.next hb9' HC.out).push x.key hkl (fun k hk => Nat.lt_of_lt_of_le (HC.out k hk) hb9'.size) (Nat.le_trans hwW hb9'.size)
                have hv9 := (HCOL.out.next hb9' HC.out).var
                have hv9a := ((HCOL.out.next hb9' HC.out).next ((Below.refl w9.heap.size w9).alloc (Nat.le_refl _) (.cells #[.string x.key] 9)) (fun k hk => Nat.lt_of_lt_of_le (HC.out k hk) hb9'.size)).var
                have HP := Lib.hid (hP.from hb9' HC.out)
                clear hP hb9
                refine hK _ _ ?_
                clear hK K
                try simp only [List.getElem_toArray, List.getElem_cons_zero, List.getElem_cons_succ, Act.put, List.setIfInBounds_toArray, List.set_cons_zero, List.set_cons_succ]
                refine wpAnyIn_ready (rs := [6]) (by kernel_rfl) (by simp) ?_
                refine AllReadyIn.cons (o := _) rfl (fun K hK => ?_) ?_
                · go_simp
                  refine hK _ _ ?_
                  clear hK K
                  try simp only [List.getElem_toArray, List.getElem_cons_zero, List.getElem_cons_succ, Act.put, List.setIfInBounds_toArray, List.set_cons_zero, List.set_cons_succ]
                  refine wpAnyIn_ready (rs := [7]) (by kernel_rfl) (by simp) ?_
                  refine AllReadyIn.cons (o := _) rfl (fun K hK => ?_) ?_
                  · rw [if_pos (by rfl)]
                    refine wpIn_append (.tmp 11) (.tmp 17) 65 rfl hr (hK _ _ ?_)
                    clear hK K
                    try simp only [List.getElem_toArray, List.getElem_cons_zero, List.getElem_cons_succ, Act.put, List.setIfInBounds_toArray, List.set_cons_zero, List.set_cons_succ]
                    refine wpAnyIn_ready (rs := [8]) (by kernel_rfl) (by simp) ?_
                    refine AllReadyIn.cons (o := _) rfl (fun K hK => ?_) ?_
                    · go_simp
                      refine hK _ _ ?_
                      clear hK K
                      try simp only [List.getElem_toArray, List.getElem_cons_zero, List.getElem_cons_succ, Act.put, List.setIfInBounds_toArray, List.set_cons_zero, List.set_cons_succ]
                      refine wpAnyIn_done (by kernel_rfl) ?_ _
                      gi_wp2
                      exact ⟨_, HP.out.1, HP.out.2.1, HP.out.2.2.1, ⟨_, _, by rw [List.map_append, HKS.out]; exact HP.out.2.2.2⟩, HP.out.2.1⟩
                    exact AllReadyIn.nil
                  exact AllReadyIn.nil
                exact AllReadyIn.nil
              exact AllReadyIn.nil
            exact AllReadyIn.nil
          exact AllReadyIn.nil
        refine AllReadyIn.cons (o := _) rfl (fun K hK => ?_) ?_
        · go_simp
          refine hK _ _ ?_
          clear hK K
          try simp only [List.getElem_toArray, List.getElem_cons_zero, List.getElem_cons_succ, Act.put, List.setIfInBounds_toArray, List.set_cons_zero, List.set_cons_succ]
          refine wpAnyIn_ready (rs := [0, 4]) (by kernel_rfl) (by simp) ?_
          refine AllReadyIn.cons (o := _) rfl (fun K hK => ?_) ?_
          · go_simp
            refine hK _ _ ?_
            clear hK K
            try simp only [List.getElem_toArray, List.getElem_cons_zero, List.getElem_cons_succ, Act.put, List.setIfInBounds_toArray, List.set_cons_zero, List.set_cons_succ]
            refine wpAnyIn_ready (rs := [4]) (by kernel_rfl) (by simp) ?_
            refine AllReadyIn.cons (o := _) rfl (fun K hK => ?_) ?_
            · go_simp
              refine hK _ _ ?_
              clear hK K
              try simp only [List.getElem_toArray, List.getElem_cons_zero, List.getElem_cons_succ, Act.put, List.setIfInBounds_toArray, List.set_cons_zero, List.set_cons_succ]
              refine wpAnyIn_ready (rs := [5]) (by kernel_rfl) (by simp) ?_
              refine AllReadyIn.cons (o := _) rfl (fun K hK => ?_) ?_
              · go_simp
                refine (callsIn_wide.2 (CKX.out _)).mono ?_
                rintro e1 w9 ⟨rfl, hb9⟩
                have hb9' : Below W.heap.size W w9 := ⟨hb9.os, hb9.tape, hb9.output, hb9.size, hb9.block⟩
                obtain ⟨W2, g', c', hr, hv2, hf2, hP⟩ := (HCOL.out.next hb9' HC.out).push x.key hkl (fun k hk => Nat.lt_of_lt_of_le (HC.out k hk) hb9'.size) (Nat.le_trans hwW hb9'.size)
                have hv9 := (HCOL.out.next hb9' HC.out).var
                have hv9a := ((HCOL.out.next hb9' HC.out).next ((Below.refl w9.heap.size w9).alloc (Nat.le_refl _) (.cells #[.string x.key] 9)) (fun k hk => Nat.lt_of_lt_of_le (HC.out k hk) hb9'.size)).var
                have HP := Lib.hid (hP.from hb9' HC.out)
                clear hP hb9
                refine hK _ _ ?_
                clear hK K
                try simp only [List.getElem_toArray, List.getElem_cons_zero, List.getElem_cons_succ, Act.put, List.setIfInBounds_toArray, List.set_cons_zero, List.set_cons_succ]
                refine wpAnyIn_ready (rs := [6]) (by kernel_rfl) (by simp) ?_
                refine AllReadyIn.cons (o := _) rfl (fun K hK => ?_) ?_
                · go_simp
                  refine hK _ _ ?_
                  clear hK K
                  try simp only [List.getElem_toArray, List.getElem_cons_zero, List.getElem_cons_succ, Act.put, List.setIfInBounds_toArray, List.set_cons_zero, List.set_cons_succ]
                  refine wpAnyIn_ready (rs := [7]) (by kernel_rfl) (by simp) ?_
                  refine AllReadyIn.cons (o := _) rfl (fun K hK => ?_) ?_
                  · rw [if_pos (by rfl)]
                    refine wpIn_append (.tmp 11) (.tmp 17) 65 rfl hr (hK _ _ ?_)
                    clear hK K
                    try simp only [List.getElem_toArray, List.getElem_cons_zero, List.getElem_cons_succ, Act.put, List.setIfInBounds_toArray, List.set_cons_zero, List.set_cons_succ]
                    refine wpAnyIn_ready (rs := [8]) (by kernel_rfl) (by simp) ?_
                    refine AllReadyIn.cons (o := _) rfl (fun K hK => ?_) ?_
                    · go_simp
                      refine hK _ _ ?_
                      clear hK K
                      try simp only [List.getElem_toArray, List.getElem_cons_zero, List.getElem_cons_succ, Act.put, List.setIfInBounds_toArray, List.set_cons_zero, List.set_cons_succ]
                      refine wpAnyIn_done (by kernel_rfl) ?_ _
                      gi_wp2
                      exact ⟨_, HP.out.1, HP.out.2.1, HP.out.2.2.1, ⟨_, _, by rw [List.map_append, HKS.out]; exact HP.out.2.2.2⟩, HP.out.2.1⟩
                    exact AllReadyIn.nil
                  exact AllReadyIn.nil
                exact AllReadyIn.nil
              exact AllReadyIn.nil
            exact AllReadyIn.nil
          refine AllReadyIn.cons (o := _) rfl (fun K hK => ?_) ?_
          · go_simp
            refine hK _ _ ?_
            clear hK K
            try simp only [List.getElem_toArray, List.getElem_cons_zero, List.getElem_cons_succ, Act.put, List.setIfInBounds_toArray, List.set_cons_zero, List.set_cons_succ]
            refine wpAnyIn_ready (rs := [0, 5]) (by kernel_rfl) (by simp) ?_
            refine AllReadyIn.cons (o := _) rfl (fun K hK => ?_) ?_
            · go_simp
              refine hK _ _ ?_
              clear hK K
              try simp only [List.getElem_toArray, List.getElem_cons_zero, List.getElem_cons_succ, Act.put, List.setIfInBounds_toArray, List.set_cons_zero, List.set_cons_succ]
              refine wpAnyIn_ready (rs := [5]) (by kernel_rfl) (by simp) ?_
              refine AllReadyIn.cons (o := _) rfl (fun K hK => ?_) ?_
              · go_simp
                refine (callsIn_wide.2 (CKX.out _)).mono ?_
                rintro e1 w9 ⟨rfl, hb9⟩
                have hb9' : Below W.heap.size W w9 := ⟨hb9.os, hb9.tape, hb9.output, hb9.size, hb9.block⟩
                obtain ⟨W2, g', c', hr, hv2, hf2, hP⟩ := (HCOL.out.next hb9' HC.out).push x.key hkl (fun k hk => Nat.lt_of_lt_of_le (HC.out k hk) hb9'.size) (Nat.le_trans hwW hb9'.size)
                have hv9 := (HCOL.out.next hb9' HC.out).var
                have hv9a := ((HCOL.out.next hb9' HC.out).next ((Below.refl w9.heap.size w9).alloc (Nat.le_refl _) (.cells #[.string x.key] 9)) (fun k hk => Nat.lt_of_lt_of_le (HC.out k hk) hb9'.size)).var
                have HP := Lib.hid (hP.from hb9' HC.out)
                clear hP hb9
                refine hK _ _ ?_
                clear hK K
                try simp only [List.getElem_toArray, List.getElem_cons_zero, List.getElem_cons_succ, Act.put, List.setIfInBounds_toArray, List.set_cons_zero, List.set_cons_succ]
                refine wpAnyIn_ready (rs := [6]) (by kernel_rfl) (by simp) ?_
                refine AllReadyIn.cons (o := _) rfl (fun K hK => ?_) ?_
                · go_simp
                  refine hK _ _ ?_
                  clear hK K
                  try simp only [List.getElem_toArray, List.getElem_cons_zero, List.getElem_cons_succ, Act.put, List.setIfInBounds_toArray, List.set_cons_zero, List.set_cons_succ]
                  refine wpAnyIn_ready (rs := [7]) (by kernel_rfl) (by simp) ?_
                  refine AllReadyIn.cons (o := _) rfl (fun K hK => ?_) ?_
                  · rw [if_pos (by rfl)]
                    refine wpIn_append (.tmp 11) (.tmp 17) 65 rfl hr (hK _ _ ?_)
                    clear hK K
                    try simp only [List.getElem_toArray, List.getElem_cons_zero, List.getElem_cons_succ, Act.put, List.setIfInBounds_toArray, List.set_cons_zero, List.set_cons_succ]
                    refine wpAnyIn_ready (rs := [8]) (by kernel_rfl) (by simp) ?_
                    refine AllReadyIn.cons (o := _) rfl (fun K hK => ?_) ?_
                    · go_simp
                      refine hK _ _ ?_
                      clear hK K
                      try simp only [List.getElem_toArray, List.getElem_cons_zero, List.getElem_cons_succ, Act.put, List.setIfInBounds_toArray, List.set_cons_zero, List.set_cons_succ]
                      refine wpAnyIn_done (by kernel_rfl) ?_ _
                      gi_wp2
                      exact ⟨_, HP.out.1, HP.out.2.1, HP.out.2.2.1, ⟨_, _, by rw [List.map_append, HKS.out]; exact HP.out.2.2.2⟩, HP.out.2.1⟩
                    exact AllReadyIn.nil
                  exact AllReadyIn.nil
                exact AllReadyIn.nil
              exact AllReadyIn.nil
            refine AllReadyIn.cons (o := _) rfl (fun K hK => ?_) ?_
            · go_simp
              refine (callsIn_wide.2 (CKX.out _)).mono ?_
              rintro e1 w9 ⟨rfl, hb9⟩
              have hb9' : Below W.heap.size W w9 := ⟨hb9.os, hb9.tape, hb9.output, hb9.size, hb9.block⟩
              obtain ⟨W2, g', c', hr, hv2, hf2, hP⟩ := (HCOL.out.next hb9' HC.out).push x.key hkl (fun k hk => Nat.lt_of_lt_of_le (HC.out k hk) hb9'.size) (Nat.le_trans hwW hb9'.size)
              have hv9 := (HCOL.out.next hb9' HC.out).var
              have hv9a := ((HCOL.out.next hb9' HC.out).next ((Below.refl w9.heap.size w9).alloc (Nat.le_refl _) (.cells #[.string x.key] 9)) (fun k hk => Nat.lt_of_lt_of_le (HC.out k hk) hb9'.size)).var
              have HP := Lib.hid (hP.from hb9' HC.out)
              clear hP hb9
              refine hK _ _ ?_
              clear hK K
              try simp only [List.getElem_toArray, List.getElem_cons_zero, List.getElem_cons_succ, Act.put, List.setIfInBounds_toArray, List.set_cons_zero, List.set_cons_succ]
              refine wpAnyIn_ready (rs := [0, 6]) (by kernel_rfl) (by simp) ?_
              refine AllReadyIn.cons (o := _) rfl (fun K hK => ?_) ?_
              · go_simp
                refine hK _ _ ?_
                clear hK K
                try simp only [List.getElem_toArray, List.getElem_cons_zero, List.getElem_cons_succ, Act.put, List.setIfInBounds_toArray, List.set_cons_zero, List.set_cons_succ]
                refine wpAnyIn_ready (rs := [6]) (by kernel_rfl) (by simp) ?_
                refine AllReadyIn.cons (o := _) rfl (fun K hK => ?_) ?_
                · go_simp
                  refine hK _ _ ?_
                  clear hK K
                  try simp only [List.getElem_toArray, List.getElem_cons_zero, List.getElem_cons_succ, Act.put, List.setIfInBounds_toArray, List.set_cons_zero, List.set_cons_succ]
                  refine wpAnyIn_ready (rs := [7]) (by kernel_rfl) (by simp) ?_
                  refine AllReadyIn.cons (o := _) rfl (fun K hK => ?_) ?_
                  · rw [if_pos (by rfl)]
                    refine wpIn_append (.tmp 11) (.tmp 17) 65 rfl hr (hK _ _ ?_)
                    clear hK K
                    try simp only [List.getElem_toArray, List.getElem_cons_zero, List.getElem_cons_succ, Act.put, List.setIfInBounds_toArray, List.set_cons_zero, List.set_cons_succ]
                    refine wpAnyIn_ready (rs := [8]) (by kernel_rfl) (by simp) ?_
                    refine AllReadyIn.cons (o := _) rfl (fun K hK => ?_) ?_
                    · go_simp
                      refine hK _ _ ?_
                      clear hK K
                      try simp only [List.getElem_toArray, List.getElem_cons_zero, List.getElem_cons_succ, Act.put, List.setIfInBounds_toArray, List.set_cons_zero, List.set_cons_succ]
                      refine wpAnyIn_done (by kernel_rfl) ?_ _
                      gi_wp2
                      exact ⟨_, HP.out.1, HP.out.2.1, HP.out.2.2.1, ⟨_, _, by rw [List.map_append, HKS.out]; exact HP.out.2.2.2⟩, HP.out.2.1⟩
                    exact AllReadyIn.nil
                  exact AllReadyIn.nil
                exact AllReadyIn.nil
              refine AllReadyIn.cons (o := _) rfl (fun K hK => ?_) ?_
              · go_simp
                refine hK _ _ ?_
                clear hK K
                try simp only [List.getElem_toArray, List.getElem_cons_zero, List.getElem_cons_succ, Act.put, List.setIfInBounds_toArray, List.set_cons_zero, List.set_cons_succ]
                refine wpAnyIn_ready (rs := [0]) (by kernel_rfl) (by simp) ?_
                refine AllReadyIn.cons (o := _) rfl (fun K hK => ?_) ?_
                · go_simp
                  refine hK _ _ ?_
                  clear hK K
                  try simp only [List.getElem_toArray, List.getElem_cons_zero, List.getElem_cons_succ, Act.put, List.setIfInBounds_toArray, List.set_cons_zero, List.set_cons_succ]
                  refine wpAnyIn_ready (rs := [7]) (by kernel_rfl) (by simp) ?_
                  refine AllReadyIn.cons (o := _) rfl (fun K hK => ?_) ?_
                  · rw [if_pos (by rfl)]
                    refine wpIn_append (.tmp 11) (.tmp 17) 65 rfl hr (hK _ _ ?_)
                    clear hK K
                    try simp only [List.getElem_toArray, List.getElem_cons_zero, List.getElem_cons_succ, Act.put, List.setIfInBounds_toArray, List.set_cons_zero, List.set_cons_succ]
                    refine wpAnyIn_ready (rs := [8]) (by kernel_rfl) (by simp) ?_
                    refine AllReadyIn.cons (o := _) rfl (fun K hK => ?_) ?_
                    · go_simp
                      refine hK _ _ ?_
                      clear hK K
                      try simp only [List.getElem_toArray, List.getElem_cons_zero, List.getElem_cons_succ, Act.put, List.setIfInBounds_toArray, List.set_cons_zero, List.set_cons_succ]
                      refine wpAnyIn_done (by kernel_rfl) ?_ _
                      gi_wp2
                      exact ⟨_, HP.out.1, HP.out.2.1, HP.out.2.2.1, ⟨_, _, by rw [List.map_append, HKS.out]; exact HP.out.2.2.2⟩, HP.out.2.1⟩
                    exact AllReadyIn.nil
                  exact AllReadyIn.nil
                exact AllReadyIn.nil
              exact AllReadyIn.nil
            exact AllReadyIn.nil
          exact AllReadyIn.nil
        exact AllReadyIn.nil
      exact AllReadyIn.nil
    exact AllReadyIn.nil
  case done =>
    rintro D xs C6 w6 rfl ⟨⟨g, c, hcol⟩, hC6⟩ hcm hf6 rfl hD6 hsz6
    have hv := hcol.var
    have hb6 : Below w.heap.size w w6 := HB5.out.trans (hcm.below (n := w.heap.size) (by have := HZ.out; omega) (fun k h => by have := HL.out; rcases h with h | h <;> omega))
    have hbl6 := hC6 bl hcol.cb
    have hfz : w6.heap.size = w6.heap.size := rfl
    have HCOL := Lib.hid hcol
    have HD6 := Lib.hid hD6
    have HB6 := Lib.hid hb6
    have HNE : Hid (∀ k, C6 k → k ≠ w5.heap.size) := Lib.hid (fun k hk => by
      have h1 := HL.out
      have h2 := HZ.out
      rcases hf6 k hk with (h | h) | h <;> omega)
    clear hcol hC6 hcm hf6 hD6 hsz6 hb6 hfz
    gi_wp2
    have hsame : Same C6 w6 (w6.putObj w5.heap.size (.deferred none)) := same_put w6 _ _ (fun h => HNE.out _ h rfl)
    have bf : Below w.heap.size w (w6.putObj w5.heap.size (.deferred none)) := ⟨HB6.out.os, HB6.out.tape, HB6.out.output, by rw [World.putObj_size]; exact HB6.out.size, fun k hk => (World.putObj_heap_other (by have := HB5.out.size; omega)).trans (HB6.out.block k hk)⟩
    refine ⟨by simp, .inl ⟨_, _, rfl, run_takeDeferred HD6.out, ?_⟩⟩
    refine ⟨_, ?_, ⟨_, rfl, (HCOL.out.same hsame).row, bf⟩⟩
    simp [results, Tryd.results29, go_sem]
end Go.Proofs.YtjnhaglcigpknaaDoor
