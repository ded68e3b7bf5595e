/-
  CONTRACT of layer 8's All: a new row of the entries as they are; the function that goes through it holds the row's variable.
-/
import Derived.Test.YtohlnpopkaoljaaDoorArAll
namespace Go.Proofs.YtohlnpopkaoljaaDoor
open Go.RowKit Go.Shelf
attribute [local go_sem] Oper.semAt_some

theorem Psh6.from {W V W3 : World} {base bl g c : Nat} {C C' : Nat → Prop} {xs : List Q6} (h : Psh6 V W3 base bl C C' xs g c) (hb : Below W.heap.size W V) : Psh6 W W3 base bl C C' xs g c :=
  ⟨fun k hk => (h.1 k hk).imp id (fun h2 => Nat.le_trans hb.size h2), h.2.1, (Came.of_below hb (Nat.le_refl _)).trans h.2.2.1 (fun _ h2 => .inl h2), h.2.2.2⟩
/-- What All leaves: its row, behind a variable of its own. -/
def AlPost (L : List En) (w : World) (e : Ending) (w' : World) : Prop :=
  ∃ (bl g c : Nat) (C : Nat → Prop) (xs : List Q6), e = .returned (.func (.func 21) #[] #[.pointer (some ⟨bl, 0, none⟩)]) ∧ xs.map Q6.e = L ∧ Col6 w' w.heap.size bl C xs g c ∧ w.heap.size ≤ bl ∧ Below w.heap.size w w'
set_option maxHeartbeats 8000000 in
set_option maxRecDepth 100000 in
theorem all_any {w : World} {b : Nat} {mm : Option Nat} {L : List En} (h : AV w b mm L) :
    Calls Tryd.prog 7 #[.pointer (some ⟨b, 0, none⟩)] w (AlPost L w) := by
  have hlen := h.few
  have HA := Lib.hid h
  clear h
  refine (callsIn_wide (n := 6)).1 ?_
  refine callsIn_of_wp_marks Tryd.func7 rfl trivial ?_ rfl
  simp only [Tryd.ntmps7, List.size_toArray, List.length_cons, List.length_nil, Nat.reduceAdd, Nat.reduceSub, Array.replicate_succ, Array.replicate_zero, List.push_toArray, List.append_toArray, List.nil_append, List.cons_append]
  have t1 : Fence.wide.fn 18 := trivial
  have t2 : Fence.wide.fn 19 := trivial
  gi_wp2_with fail
  refine (callsIn_wide.2 (len_any HA.out)).mono ?_
  rintro e w1 ⟨rfl, hb1⟩
  obtain ⟨cur, hcs, hmk⟩ := make_ent L.length hlen w1
  have HA1 := Lib.hid (HA.out.next hb1)
  have hn0 : 0 ≤ (L.length : Int) := by omega
  have HOWN := Lib.hid fun k (hk : Own b mm L k) => Nat.lt_of_lt_of_le (HA.out.own_lt hk) hb1.size
  gi_wp2_with fail
  have hb4 : Below w1.heap.size w1 ((w1.alloc (.cells cur 61)).alloc (.cells #[.slice (some ⟨w1.heap.size, 0, none⟩) 0 L.length] 62)) := ((Below.refl _ _).alloc (Nat.le_refl _) _).alloc (by simp) _
  have hz4 : ((w1.alloc (.cells cur 61)).alloc (.cells #[.slice (some ⟨w1.heap.size, 0, none⟩) 0 L.length] 62)).heap.size = w1.heap.size + 2 := by simp
  have col4 : Col6 ((w1.alloc (.cells cur 61)).alloc (.cells #[.slice (some ⟨w1.heap.size, 0, none⟩) 0 L.length] 62)) w.heap.size (w1.heap.size + 1) (fun k => k = w1.heap.size ∨ k = w1.heap.size + 1) [] w1.heap.size L.length := by
    have h := World.ownsRow_made (base := w.heap.size) (e := 61) (size := 6) w1 cur L.length hb1.size (by unfold maxLen; omega) (by omega)
    exact ⟨by simp [go_sem], by simp [go_sem], h.alloc _, .inr rfl, .inl rfl, by omega⟩
  have HB4 := Lib.hid (hb1.trans (hb4.mono hb1.size))
  have HA4 := Lib.hid (HA1.out.next hb4)
  have hw1 := hb1.size
  generalize (w1.alloc (.cells cur 61)).alloc (.cells #[.slice (some ⟨w1.heap.size, 0, none⟩) 0 L.length] 62) = W4 at *
  obtain ⟨bl, hbl⟩ : ∃ bl, bl = w1.heap.size + 1 := ⟨_, rfl⟩
  obtain ⟨g0, hg0⟩ : ∃ g0, g0 = w1.heap.size := ⟨_, rfl⟩
  rw [← hbl] at col4 ⊢
  rw [← hg0] at col4 ⊢
  have HL := Lib.hid (And.intro hbl hg0)
  have HZ := Lib.hid hz4
  clear hb1 hb4 hmk hcs HA1 HA hbl hg0 hz4
  refine (callsIn_wide.2 (each_call b _)).mono ?_
  rintro e w5 ⟨bs, rfl, hbs0, hbs1, hb5⟩
  have hbs5 : bs < w5.heap.size := World.block_lt_of_cell? _ _ hbs1
  have col5 := col4.next hb5 (fun k hk => by have := HL.out; have := HZ.out; rcases hk with rfl | rfl <;> omega)
  have HA5 := Lib.hid (HA4.out.next hb5)
  have HB5 := Lib.hid (HB4.out.trans (hb5.mono HB4.out.size))
  have hz5 := hb5.size
  have HOW := Lib.hid fun k (hk : Own b mm L k) => HA4.out.own_lt hk
  have HOW1 : Hid (∀ k, Own b mm L k → k < w1.heap.size) := Lib.hid HOWN.out
  clear hb5 col4 HB4
  gi_wp2_with fail
  refine wpIn_rangeC (F := Fence.wide) rfl (by omega) (gf := 28) (lb := #[.pointer (some ⟨bs, 0, none⟩)]) rfl trivial (enters_of Tryd.func28 (by kernel_rfl) rfl)
    (each_seq bs _ (by omega) w5 hbs1 HA5.out) (Below.refl _ _) (fun _ => rfl) (fun k => k = g0 ∨ k = bl) (fun k hk hc => by
      have h1 := HL.out
      have h2 := HZ.out
      have h3 : k = bs ∨ k < w1.heap.size := hk.imp id (HOW1.out k)
      rcases hc with h | h <;> rcases h3 with h4 | h4 <;> omega) (fun k hk => by
      rcases hk with rfl | hk
      · exact hbs5
      · have := HOW.out k hk; omega) (fun k hc => by have := HL.out; have := HZ.out; rcases hc with h | h <;> omega)
    (fun (pre : List En) C W => (∃ g c xs, xs.map Q6.e = pre ∧ Col6 W w.heap.size bl C xs g c) ∧ ∀ k, C k → k < W.heap.size) (fun _ _ _ _ => False) (fun pre C A B h hs => ⟨by obtain ⟨g, c, xs, h0, h1⟩ := h.1; exact ⟨g, c, xs, h0, h1.same hs⟩, fun k hk => Nat.lt_of_lt_of_le (h.2 k hk) hs.size⟩) (fun _ _ _ _ _ h _ => h) ⟨⟨g0, L.length, [], rfl, col5⟩, fun k hc => by have := HL.out; have := HZ.out; rcases hc with h | h <;> omega⟩ ?a1 ?assign ?body ?done ?stop
  case assign =>
    intro l' x W K hK
    gi_wp2
    exact hK
  case stop => rintro D c pre C W _ h; exact h.elim
  case body =>
    rintro l' pre x C W ⟨⟨g, c, xs, hxs, hcol⟩, hC⟩ hcm hf hlen2 hsp
    have hxL : x ∈ L := hsp.subset (by simp)
    obtain ⟨pa, pb, kx5, hxg⟩ := ent_all HA5.out hxL
    have hx0 : ¬ (x.g = g0 ∨ x.g = bl) := by
      have h1 := HL.out
      have h3 := HOW1.out x.g (.inr (.inr ⟨x, hxL, rfl⟩))
      omega
    have kx := (hcm.block x.g hxg hx0).trans kx5
    have hxW : x.g < W.heap.size := Nat.lt_of_lt_of_le hxg hcm.size
    have hkl : xs.length ≤ 2000 := by
      have : xs.length = pre.length := by rw [← hxs, List.length_map]
      omega
    have hwW : w.heap.size ≤ W.heap.size := by have := hcm.size; have := HZ.out; omega
    have hWV : Below W.heap.size W W.drew := ⟨rfl, rfl, rfl, Nat.le_refl _, fun _ _ => rfl⟩
    obtain ⟨V, hV⟩ : ∃ V, V = W.drew := ⟨_, rfl⟩
    rw [← hV] at hWV
    have hcolV := hcol.next hWV hC
    have hCV : ∀ k, C k → k < V.heap.size := fun k hk => Nat.lt_of_lt_of_le (hC k hk) hWV.size
    have kV := (hWV.block x.g hxW).trans kx
    obtain ⟨W2, g', c', hr, hv2, hf2, hP⟩ := hcolV.push ⟨x, pa, pb⟩ hkl hCV (Nat.le_trans hwW hWV.size)
    unfold entO at hr
    dsimp only at hr
    have hv := hcolV.var
    have hva := (hcolV.next ((Below.refl V.heap.size V).alloc (Nat.le_refl _) (.cells #[.string x.key, .int .i64 x.c.k, .int .i64 x.c.n, .string x.c.s, .pointer pa, .pointer pb] 61)) hCV).var
    have e0 : V.cell? ⟨x.g, 0, none⟩ = some (.string x.key) := block_cell kV
    have e1 : V.cell? ⟨x.g, 1, none⟩ = some (.int .i64 x.c.k) := block_cell kV
    have e2 : V.cell? ⟨x.g, 2, none⟩ = some (.int .i64 x.c.n) := block_cell kV
    have e3 : V.cell? ⟨x.g, 3, none⟩ = some (.string x.c.s) := block_cell kV
    have e4 : V.cell? ⟨x.g, 4, none⟩ = some (.pointer pa) := block_cell kV
    have e5 : V.cell? ⟨x.g, 5, none⟩ = some (.pointer pb) := block_cell kV
    have HP := Lib.hid (hP.from hWV)
    have HXS := Lib.hid hxs
    clear hP hcolV hCV kV hcol hC hcm hf hlen2 hsp kx kx5 hxg hx0 hxW hxs hWV hxL
    generalize x.g = xg at *
    gi_wp2_with fail
    refine wpIn_region_any (by kernel_rfl) ?_
    change wpAnyIn _ _ _ _ _ _ _ _ _ (World.drew _)
    rw [← hV]
    clear hV
    refine wpAnyIn_ready (rs := [0, 1]) (by kernel_rfl) (by simp) ?_
    refine AllReadyIn.cons (o := _) rfl (fun K hK => ?_) ?_
    · go_simp
      refine hK _ _ ?_
      clear hK K
      try simp only [List.getElem_toArray, List.getElem_cons_zero, List.getElem_cons_succ, Act.put, List.setIfInBounds_toArray, List.set_cons_zero, List.set_cons_succ]
      refine wpAnyIn_ready (rs := [1]) (by kernel_rfl) (by simp) ?_
      refine AllReadyIn.cons (o := _) rfl (fun K hK => ?_) ?_
      · go_simp
        refine hK _ _ ?_
        clear hK K
        try simp only [List.getElem_toArray, List.getElem_cons_zero, List.getElem_cons_succ, Act.put, List.setIfInBounds_toArray, List.set_cons_zero, List.set_cons_succ]
        refine wpAnyIn_ready (rs := [2]) (by kernel_rfl) (by simp) ?_
        refine AllReadyIn.cons (o := _) rfl (fun K hK => ?_) ?_
        · go_simp
          refine hK _ _ ?_
          clear hK K
          try simp only [List.getElem_toArray, List.getElem_cons_zero, List.getElem_cons_succ, Act.put, List.setIfInBounds_toArray, List.set_cons_zero, List.set_cons_succ]
          refine wpAnyIn_ready (rs := [3]) (by kernel_rfl) (by simp) ?_
          refine AllReadyIn.cons (o := _) rfl (fun K hK => ?_) ?_
          · go_simp
            refine hK _ _ ?_
            clear hK K
            try simp only [List.getElem_toArray, List.getElem_cons_zero, List.getElem_cons_succ, Act.put, List.setIfInBounds_toArray, List.set_cons_zero, List.set_cons_succ]
            refine wpAnyIn_ready (rs := [4]) (by kernel_rfl) (by simp) ?_
            refine AllReadyIn.cons (o := _) rfl (fun K hK => ?_) ?_
            · go_simp
              refine hK _ _ ?_
              clear hK K
              try simp only [List.getElem_toArray, List.getElem_cons_zero, List.getElem_cons_succ, Act.put, List.setIfInBounds_toArray, List.set_cons_zero, List.set_cons_succ]
              refine wpAnyIn_ready (rs := [5]) (by kernel_rfl) (by simp) ?_
              refine AllReadyIn.cons (o := _) rfl (fun K hK => ?_) ?_
              · rw [if_pos (by rfl)]
                refine wpIn_append (.tmp 11) (.tmp 15) 62 rfl hr (hK _ _ ?_)
                clear hK K
                try simp only [List.getElem_toArray, List.getElem_cons_zero, List.getElem_cons_succ, Act.put, List.setIfInBounds_toArray, List.set_cons_zero, List.set_cons_succ]
                refine wpAnyIn_ready (rs := [6]) (by kernel_rfl) (by simp) ?_
                refine AllReadyIn.cons (o := _) rfl (fun K hK => ?_) ?_
                · go_simp
                  refine hK _ _ ?_
                  clear hK K
                  try simp only [List.getElem_toArray, List.getElem_cons_zero, List.getElem_cons_succ, Act.put, List.setIfInBounds_toArray, List.set_cons_zero, List.set_cons_succ]
                  refine wpAnyIn_done (by kernel_rfl) ?_ _
                  gi_wp2
                  exact ⟨_, HP.out.1, HP.out.2.1, HP.out.2.2.1, ⟨_, _, _, by rw [List.map_append, HXS.out]; rfl, HP.out.2.2.2⟩, HP.out.2.1⟩
                exact AllReadyIn.nil
              exact AllReadyIn.nil
            exact AllReadyIn.nil
          exact AllReadyIn.nil
        exact AllReadyIn.nil
      exact AllReadyIn.nil
    refine AllReadyIn.cons (o := _) rfl (fun K hK => ?_) ?_
    · go_simp
      refine hK _ _ ?_
      clear hK K
      try simp only [List.getElem_toArray, List.getElem_cons_zero, List.getElem_cons_succ, Act.put, List.setIfInBounds_toArray, List.set_cons_zero, List.set_cons_succ]
      refine wpAnyIn_ready (rs := [0, 2]) (by kernel_rfl) (by simp) ?_
      refine AllReadyIn.cons (o := _) rfl (fun K hK => ?_) ?_
      · go_simp
        refine hK _ _ ?_
        clear hK K
        try simp only [List.getElem_toArray, List.getElem_cons_zero, List.getElem_cons_succ, Act.put, List.setIfInBounds_toArray, List.set_cons_zero, List.set_cons_succ]
        refine wpAnyIn_ready (rs := [2]) (by kernel_rfl) (by simp) ?_
        refine AllReadyIn.cons (o := _) rfl (fun K hK => ?_) ?_
        · go_simp
          refine hK _ _ ?_
          clear hK K
          try simp only [List.getElem_toArray, List.getElem_cons_zero, List.getElem_cons_succ, Act.put, List.setIfInBounds_toArray, List.set_cons_zero, List.set_cons_succ]
          refine wpAnyIn_ready (rs := [3]) (by kernel_rfl) (by simp) ?_
          refine AllReadyIn.cons (o := _) rfl (fun K hK => ?_) ?_
          · go_simp
            refine hK _ _ ?_
            clear hK K
            try simp only [List.getElem_toArray, List.getElem_cons_zero, List.getElem_cons_succ, Act.put, List.setIfInBounds_toArray, List.set_cons_zero, List.set_cons_succ]
            refine wpAnyIn_ready (rs := [4]) (by kernel_rfl) (by simp) ?_
            refine AllReadyIn.cons (o := _) rfl (fun K hK => ?_) ?_
            · go_simp
              refine hK _ _ ?_
              clear hK K
              try simp only [List.getElem_toArray, List.getElem_cons_zero, List.getElem_cons_succ, Act.put, List.setIfInBounds_toArray, List.set_cons_zero, List.set_cons_succ]
              refine wpAnyIn_ready (rs := [5]) (by kernel_rfl) (by simp) ?_
              refine AllReadyIn.cons (o := _) rfl (fun K hK => ?_) ?_
              · rw [if_pos (by rfl)]
                refine wpIn_append (.tmp 11) (.tmp 15) 62 rfl hr (hK _ _ ?_)
                clear hK K
                try simp only [List.getElem_toArray, List.getElem_cons_zero, List.getElem_cons_succ, Act.put, List.setIfInBounds_toArray, List.set_cons_zero, List.set_cons_succ]
                refine wpAnyIn_ready (rs := [6]) (by kernel_rfl) (by simp) ?_
                refine AllReadyIn.cons (o := _) rfl (fun K hK => ?_) ?_
                · go_simp
                  refine hK _ _ ?_
                  clear hK K
                  try simp only [List.getElem_toArray, List.getElem_cons_zero, List.getElem_cons_succ, Act.put, List.setIfInBounds_toArray, List.set_cons_zero, List.set_cons_succ]
                  refine wpAnyIn_done (by kernel_rfl) ?_ _
                  gi_wp2
                  exact ⟨_, HP.out.1, HP.out.2.1, HP.out.2.2.1, ⟨_, _, _, by rw [List.map_append, HXS.out]; rfl, HP.out.2.2.2⟩, HP.out.2.1⟩
                exact AllReadyIn.nil
              exact AllReadyIn.nil
            exact AllReadyIn.nil
          exact AllReadyIn.nil
        exact AllReadyIn.nil
      refine AllReadyIn.cons (o := _) rfl (fun K hK => ?_) ?_
      · go_simp
        refine hK _ _ ?_
        clear hK K
        try simp only [List.getElem_toArray, List.getElem_cons_zero, List.getElem_cons_succ, Act.put, List.setIfInBounds_toArray, List.set_cons_zero, List.set_cons_succ]
        refine wpAnyIn_ready (rs := [0, 3]) (by kernel_rfl) (by simp) ?_
        refine AllReadyIn.cons (o := _) rfl (fun K hK => ?_) ?_
        · go_simp
          refine hK _ _ ?_
          clear hK K
          try simp only [List.getElem_toArray, List.getElem_cons_zero, List.getElem_cons_succ, Act.put, List.setIfInBounds_toArray, List.set_cons_zero, List.set_cons_succ]
          refine wpAnyIn_ready (rs := [3]) (by kernel_rfl) (by simp) ?_
          refine AllReadyIn.cons (o := _) rfl (fun K hK => ?_) ?_
          · go_simp
            refine hK _ _ ?_
            clear hK K
            try simp only [List.getElem_toArray, List.getElem_cons_zero, List.getElem_cons_succ, Act.put, List.setIfInBounds_toArray, List.set_cons_zero, List.set_cons_succ]
            refine wpAnyIn_ready (rs := [4]) (by kernel_rfl) (by simp) ?_
            refine AllReadyIn.cons (o := _) rfl (fun K hK => ?_) ?_
            · go_simp
              refine hK _ _ ?_
              clear hK K
              try simp only [List.getElem_toArray, List.getElem_cons_zero, List.getElem_cons_succ, Act.put, List.setIfInBounds_toArray, List.set_cons_zero, List.set_cons_succ]
              refine wpAnyIn_ready (rs := [5]) (by kernel_rfl) (by simp) ?_
              refine AllReadyIn.cons (o := _) rfl (fun K hK => ?_) ?_
              · rw [if_pos (by rfl)]
                refine wpIn_append (.tmp 11) (.tmp 15) 62 rfl hr (hK _ _ ?_)
                clear hK K
                try simp only [List.getElem_toArray, List.getElem_cons_zero, List.getElem_cons_succ, Act.put, List.setIfInBounds_toArray, List.set_cons_zero, List.set_cons_succ]
                refine wpAnyIn_ready (rs := [6]) (by kernel_rfl) (by simp) ?_
                refine AllReadyIn.cons (o := _) rfl (fun K hK => ?_) ?_
                · go_simp
                  refine hK _ _ ?_
                  clear hK K
                  try simp only [List.getElem_toArray, List.getElem_cons_zero, List.getElem_cons_succ, Act.put, List.setIfInBounds_toArray, List.set_cons_zero, List.set_cons_succ]
                  refine wpAnyIn_done (by kernel_rfl) ?_ _
                  gi_wp2
                  exact ⟨_, HP.out.1, HP.out.2.1, HP.out.2.2.1, ⟨_, _, _, by rw [List.map_append, HXS.out]; rfl, HP.out.2.2.2⟩, HP.out.2.1⟩
                exact AllReadyIn.nil
              exact AllReadyIn.nil
            exact AllReadyIn.nil
          exact AllReadyIn.nil
        refine AllReadyIn.cons (o := _) rfl (fun K hK => ?_) ?_
        · go_simp
          refine hK _ _ ?_
          clear hK K
          try simp only [List.getElem_toArray, List.getElem_cons_zero, List.getElem_cons_succ, Act.put, List.setIfInBounds_toArray, List.set_cons_zero, List.set_cons_succ]
          refine wpAnyIn_ready (rs := [0, 4]) (by kernel_rfl) (by simp) ?_
          refine AllReadyIn.cons (o := _) rfl (fun K hK => ?_) ?_
          · go_simp
            refine hK _ _ ?_
            clear hK K
            try simp only [List.getElem_toArray, List.getElem_cons_zero, List.getElem_cons_succ, Act.put, List.setIfInBounds_toArray, List.set_cons_zero, List.set_cons_succ]
            refine wpAnyIn_ready (rs := [4]) (by kernel_rfl) (by simp) ?_
            refine AllReadyIn.cons (o := _) rfl (fun K hK => ?_) ?_
            · go_simp
              refine hK _ _ ?_
              clear hK K
              try simp only [List.getElem_toArray, List.getElem_cons_zero, List.getElem_cons_succ, Act.put, List.setIfInBounds_toArray, List.set_cons_zero, List.set_cons_succ]
              refine wpAnyIn_ready (rs := [5]) (by kernel_rfl) (by simp) ?_
              refine AllReadyIn.cons (o := _) rfl (fun K hK => ?_) ?_
              · rw [if_pos (by rfl)]
                refine wpIn_append (.tmp 11) (.tmp 15) 62 rfl hr (hK _ _ ?_)
                clear hK K
                try simp only [List.getElem_toArray, List.getElem_cons_zero, List.getElem_cons_succ, Act.put, List.setIfInBounds_toArray, List.set_cons_zero, List.set_cons_succ]
                refine wpAnyIn_ready (rs := [6]) (by kernel_rfl) (by simp) ?_
                refine AllReadyIn.cons (o := _) rfl (fun K hK => ?_) ?_
                · go_simp
                  refine hK _ _ ?_
                  clear hK K
                  try simp only [List.getElem_toArray, List.getElem_cons_zero, List.getElem_cons_succ, Act.put, List.setIfInBounds_toArray, List.set_cons_zero, List.set_cons_succ]
                  refine wpAnyIn_done (by kernel_rfl) ?_ _
                  gi_wp2
                  exact ⟨_, HP.out.1, HP.out.2.1, HP.out.2.2.1, ⟨_, _, _, by rw [List.map_append, HXS.out]; rfl, HP.out.2.2.2⟩, HP.out.2.1⟩
                exact AllReadyIn.nil
              exact AllReadyIn.nil
            exact AllReadyIn.nil
          refine AllReadyIn.cons (o := _) rfl (fun K hK => ?_) ?_
          · go_simp
            refine hK _ _ ?_
            clear hK K
            try simp only [List.getElem_toArray, List.getElem_cons_zero, List.getElem_cons_succ, Act.put, List.setIfInBounds_toArray, List.set_cons_zero, List.set_cons_succ]
            refine wpAnyIn_ready (rs := [0]) (by kernel_rfl) (by simp) ?_
            refine AllReadyIn.cons (o := _) rfl (fun K hK => ?_) ?_
            · go_simp
              refine hK _ _ ?_
              clear hK K
              try simp only [List.getElem_toArray, List.getElem_cons_zero, List.getElem_cons_succ, Act.put, List.setIfInBounds_toArray, List.set_cons_zero, List.set_cons_succ]
              refine wpAnyIn_ready (rs := [5]) (by kernel_rfl) (by simp) ?_
              refine AllReadyIn.cons (o := _) rfl (fun K hK => ?_) ?_
              · rw [if_pos (by rfl)]
                refine wpIn_append (.tmp 11) (.tmp 15) 62 rfl hr (hK _ _ ?_)
                clear hK K
                try simp only [List.getElem_toArray, List.getElem_cons_zero, List.getElem_cons_succ, Act.put, List.setIfInBounds_toArray, List.set_cons_zero, List.set_cons_succ]
                refine wpAnyIn_ready (rs := [6]) (by kernel_rfl) (by simp) ?_
                refine AllReadyIn.cons (o := _) rfl (fun K hK => ?_) ?_
                · go_simp
                  refine hK _ _ ?_
                  clear hK K
                  try simp only [List.getElem_toArray, List.getElem_cons_zero, List.getElem_cons_succ, Act.put, List.setIfInBounds_toArray, List.set_cons_zero, List.set_cons_succ]
                  refine wpAnyIn_done (by kernel_rfl) ?_ _
                  gi_wp2
                  exact ⟨_, HP.out.1, HP.out.2.1, HP.out.2.2.1, ⟨_, _, _, by rw [List.map_append, HXS.out]; rfl, HP.out.2.2.2⟩, HP.out.2.1⟩
                exact AllReadyIn.nil
              exact AllReadyIn.nil
            exact AllReadyIn.nil
          exact AllReadyIn.nil
        exact AllReadyIn.nil
      exact AllReadyIn.nil
    exact AllReadyIn.nil
  case done =>
    rintro D xs0 C6 w6 rfl ⟨⟨g, c, xs, hxs, hcol⟩, hC6⟩ hcm hf6 rfl hD6 hsz6
    have hb6 : Below w.heap.size w w6 := HB5.out.trans (hcm.below (n := w.heap.size) (by have := HZ.out; omega) (fun k h => by have := HL.out; rcases h with h | h <;> omega))
    have hbl6 := hC6 bl hcol.cb
    have hfz : w6.heap.size = w6.heap.size := rfl
    have HCOL := Lib.hid hcol
    have HXS := Lib.hid hxs
    have HD6 := Lib.hid hD6
    have HB6 := Lib.hid hb6
    have HNE : Hid (∀ k, C6 k → k ≠ w5.heap.size) := Lib.hid (fun k hk => by
      have h1 := HL.out
      have h2 := HZ.out
      rcases hf6 k hk with (h | h) | h <;> omega)
    clear hcol hC6 hcm hf6 hD6 hsz6 hb6 hfz hxs
    gi_wp2
    have hsame : Same C6 w6 (w6.putObj w5.heap.size (.deferred none)) := same_put w6 _ _ (fun h => HNE.out _ h rfl)
    have bf : Below w.heap.size w (w6.putObj w5.heap.size (.deferred none)) := ⟨HB6.out.os, HB6.out.tape, HB6.out.output, by rw [World.putObj_size]; exact HB6.out.size, fun k hk => (World.putObj_heap_other (by have := HB5.out.size; omega)).trans (HB6.out.block k hk)⟩
    refine ⟨by simp, .inl ⟨_, _, rfl, run_takeDeferred HD6.out, ?_⟩⟩
    refine ⟨_, ?_, ⟨bl, g, c, C6, xs, rfl, HXS.out, HCOL.out.same hsame, by have := HL.out; omega, bf⟩⟩
    simp [results, Tryd.results7, go_sem]
end Go.Proofs.YtohlnpopkaoljaaDoor
