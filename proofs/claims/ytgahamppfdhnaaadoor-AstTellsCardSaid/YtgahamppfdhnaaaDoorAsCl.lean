/-
  CONTRACT of layer 12's clone: a tree of its own.
-/
import Derived.Test.YtgahamppfdhnaaaDoorAsClN
import Derived.Test.YtgahamppfdhnaaaDoorOrd
import Derived.Deep.RegionHeld3
import Derived.Deep.DeepCutAuto
import Derived.Deep.CutBlock
namespace Go.Proofs.YtgahamppfdhnaaaDoor
open Go.RowKit

section
variable {P : Program} {ops : Array Oper} {Q : Exit → Act → World → Prop} {md : Region.Mode} {S : World → Prop} {st : List Nat}
/-- An operation that asks nothing of the world comes first, whether or not the stores wait for it. -/
theorem wpAnyL_firstP {i : Nat} {oi : Oper} {v : Value} (hi : ops[i]? = some oi) (hsel : ∀ (j : Nat) (o : Oper) cs b, ops[j]? = some o → o.op ≠ .select cs b)
    (hQ : ∀ c a w, Q (.panic c) (a.put oi.dst v) w → Q (.panic c) a w) (hist : i ∉ st) :
    ∀ (fuel : Nat) (listed : Array Bool) (a : Act) (w : World),
      (∀ j oj, ops[j]? = some oj → j ≠ i → listed.getD j true = false → (∀ e ∈ oj.after, Region.binds md e = true → e.on ≠ i) → oi.apart ops oj = true) →
      i ∈ Region.ready md ops listed → YieldsIf P ops (fun _ => True) oi v a → StS st S listed w →
      wpAnyL P md ops Q st S fuel (listed.setIfInBounds i true) (a.put oi.dst v) w → wpAnyL P md ops Q st S (fuel + 1) listed a w := by
  have hsame : ∀ (listed : Array Bool) (w : World), StS st S listed w → StS st S (listed.setIfInBounds i true) w := fun listed w h hun => h fun s hs => by
    have := hun s hs
    rw [getD_set_ne true (show i ≠ s from fun e => hist (e ▸ hs))] at this; exact this
  intro fuel
  induction fuel with
  | zero =>
    intro listed a w _ hr hy hS H
    refine ⟨fun h => (by rw [h] at hr; cases hr), fun j hj => ?_⟩
    by_cases hji : j = i
    · subst hji; exact hy.wpOp hi trivial ⟨hsame _ _ hS, H⟩
    · have := ready_mono hj hji
      rw [H.1] at this
      cases this
  | succ fuel ih =>
    intro listed a w hfree hr hy hS H
    refine ⟨fun h => (by rw [h] at hr; cases hr), fun j hj => ?_⟩
    by_cases hji : j = i
    · subst hji; exact hy.wpOp hi trivial ⟨hsame _ _ hS, H⟩
    · have h1 := H.2 j (ready_mono hj hji)
      obtain ⟨hjun, oj, hoj, hall⟩ := mem_ready.1 hj
      have h0 := (mem_ready.1 hr).1
      have hnot : ∀ e ∈ oj.after, Region.binds md e = true → e.on ≠ i := fun e he hb heq => by
        have h1 := hall e he hb
        rw [heq] at h1
        rcases Nat.lt_or_ge i listed.size with h' | h'
        · simp [h'] at h0 h1; rw [h0] at h1; cases h1
        · simp [Array.getElem?_eq_none h'] at h1
      have h2 := wpOp_putIf hoj (hfree j oj hoj hji hjun hnot) (fun cs b => hsel i oi cs b hi) (fun cs b => hsel j oj cs b hoj) hQ hy h1
      have hfree' : ∀ k ok, ops[k]? = some ok → k ≠ i → (listed.setIfInBounds j true).getD k true = false →
          (∀ e ∈ ok.after, Region.binds md e = true → e.on ≠ i) → oi.apart ops ok = true := fun k ok hk hki hun hno => by
        refine hfree k ok hk hki ?_ hno
        by_cases hjk : j = k
        · subst hjk; exact hjun
        · rw [getD_set_ne true hjk] at hun; exact hun
      refine wpOp_mono (fun a' w' h3 => ?_) h2
      have hS' : StS st S (listed.setIfInBounds j true) w' := fun hun => h3.2.1 fun s hs => by
        rw [Array.setIfInBounds_comm _ _ (Ne.symm hji), getD_set_ne true (show i ≠ s from fun e => hist (e ▸ hs))]; exact hun s hs
      refine ⟨hS', ih (listed.setIfInBounds j true) a' w' hfree' (ready_mono hr (Ne.symm hji)) h3.1 hS' ?_⟩
      rw [Array.setIfInBounds_comm _ _ hji]
      exact h3.2.2
theorem wpAnyL_takeP {i : Nat} {oi : Oper} {v : Value} {fuel : Nat} {listed : Array Bool} {a : Act} {w : World} (hi : ops[i]? = some oi)
    (hs : Region.noSelect ops = true) (hf : Region.free md ops listed i = true) (hr : (Region.ready md ops listed).contains i = true) (hist : st.contains i = false)
    (hQ : ∀ c a w, Q (.panic c) (a.put oi.dst v) w → Q (.panic c) a w) (hy : YieldsIf P ops (fun _ => True) oi v a) (hS : S w)
    (h : wpAnyL P md ops Q st S fuel (listed.setIfInBounds i true) (a.put oi.dst v) w) : wpAnyL P md ops Q st S (fuel + 1) listed a w :=
  wpAnyL_firstP hi (Region.noSelect_spec hs) hQ (by simpa using hist) fuel listed a w (Region.free_spec hi hf) (by simpa using hr) hy (fun _ => hS) h
end
/-- What the copy's first statement reads. -/
structure Bx (w : World) (nd : Nd) (wx : World) : Prop where
  bel : Below w.heap.size w wx
  n : NodeAt wx w.heap.size 0 nd
  row : wx.heap[w.heap.size + 1]? = some (.cells #[.string ⟨#[]⟩, .string ⟨#[]⟩, .int .i64 0, .slice none 0 0] 25 (0, 0))
theorem Bx.next {w wx wy : World} {nd : Nd} (h : Bx w nd wx) (hb : Below wx.heap.size wx wy) : Bx w nd wy :=
  ⟨h.bel.trans (hb.mono h.bel.size), h.n.kept (hb.block _ h.n.lt), (hb.block _ (as_lt h.row)).trans h.row⟩
theorem Bx.new (w : World) (nd : Nd) : Bx w nd ((w.alloc (.cells #[.string nd.op, .string nd.tx, .int .i64 nd.pl, .slice nd.kp nd.kn nd.kc] 25)).alloc (.cells #[.string ⟨#[]⟩, .string ⟨#[]⟩, .int .i64 0, .slice none 0 0] 25)) := by
  refine ⟨((Below.refl _ _).alloc (Nat.le_refl _) _).alloc (by simp) _, (node_new w nd).kept (Below.heap_alloc _ _ _ (by simp)), ?_⟩
  have := as_heap_alloc (w.alloc (.cells #[.string nd.op, .string nd.tx, .int .i64 nd.pl, .slice nd.kp nd.kn nd.kc] 25)) (.cells #[.string ⟨#[]⟩, .string ⟨#[]⟩, .int .i64 0, .slice none 0 0] 25)
  rw [World.size_alloc] at this
  exact this
theorem Bx.drew {w wx : World} {nd : Nd} (h : Bx w nd wx) : Bx w nd wx.drew := ⟨h.bel.drew, h.n.kept rfl, h.row⟩
theorem Bx.cells {w wx : World} {op tx : ByteArray} {pl : Int} {kp : Option Addr} {kn kc : Nat} (h : Bx w ⟨op, tx, pl, kp, kn, kc⟩ wx) : wx.cell? ⟨w.heap.size, 0, none⟩ = some (.string op) ∧ wx.cell? ⟨w.heap.size, 1, none⟩ = some (.string tx) ∧ wx.cell? ⟨w.heap.size, 2, none⟩ = some (.int .i64 pl) ∧ wx.cell? ⟨w.heap.size, 3, none⟩ = some (.slice kp kn kc) :=
  ⟨h.n.c0, h.n.c1, h.n.c2, h.n.c3⟩
theorem Bx.clw {w wx : World} {nd : Nd} {g : Nat} (h : Bx w nd wx) (hg : w.heap.size + 2 ≤ g) : ClW w g wx := ⟨h.bel, hg, h.row⟩
/-- The row of the copy with the root in it. -/
theorem lay_root {W : World} {g S k : Nat} {nd : Nd} (h : Lay W g S []) (hS : 1 ≤ S) (hn : NodeAt W k 0 nd) : ∃ w', (Builtin.append_ #[23, 23] 23 #[.slice (some ⟨g, 0, none⟩) 0 S, .slice (some ⟨k, 0, none⟩) 1 1]).run Tryd.prog W = .ok (.slice (some ⟨g, 0, none⟩) 1 S) w' ∧ Lay w' g S [nd] ∧ OneB g W w' := by
  obtain ⟨w', h1, h2, h3⟩ := append_lay (ms := [nd]) (p := some ⟨k, 0, none⟩) (c := 1) h (.inr ⟨k, 0, rfl, fun i hi => by
    have : i = 0 := by simpa using hi
    subst this
    simpa using hn⟩) (by simpa using hS) 23
  exact ⟨w', by simpa using h1, by simpa using h2, h3⟩
def ClCut (w : World) (S : Nat) (nd : Nd) (v : Value) (wx : World) : Prop := ∃ g, v = .slice (some ⟨g, 0, none⟩) 1 S ∧ Lay wx g S [nd] ∧ ClW w g wx
set_option maxHeartbeats 8000000 in
set_option maxRecDepth 100000 in
theorem clone_any (nd : Nd) (t : T) (b : Nat) (w : World) (h : VT w b nd t) (hz : t.size ≤ 1000) (hx : TxOk t) : Calls Tryd.prog 26 #[nd.val] w (GgPost t w) := by
  obtain ⟨ks, h1, rfl⟩ := h
  obtain ⟨op, tx, pl, kp, kn, kc⟩ := nd
  obtain rfl : kn = ks.length := h1.len
  have hS : (Nd.t ⟨op, tx, pl, kp, ks.length, kc⟩ ks).size = 1 + sizeL (erL ks) := by rw [Nd.t, T.size]
  have hS1 : 1 ≤ 1 + sizeL (erL ks) := by omega
  have C1 : Hid (∀ W, Below w.heap.size w W → Calls Tryd.prog 17 #[.agg #[.string op, .string tx, .int .i64 pl, .slice kp ks.length kc]] W fun e w' => e = .returned (.int .i64 ((1 + sizeL (erL ks) : Nat) : Int)) ∧ Below W.heap.size W w') := Lib.hid fun W hW => by
    have := size_of ⟨op, tx, pl, kp, ks.length, kc⟩ _ b W (VT.next ⟨ks, h1.kept (fun g _ hl => rfl) (fun _ h _ => h), rfl⟩ hW) hz
    rw [hS] at this
    exact this
  have hkd : Kd kp ks := h1.kd
  have hm : MemL w (fun k => k < w.heap.size) ks := MemL.kept (fun _ _ _ => rfl) (fun g _ hl => hl) _ h1.mem
  have HST : Hid (∀ g W, Below w.heap.size w W → Lay W g (1 + sizeL (erL ks)) [⟨op, tx, pl, kp, ks.length, kc⟩] → ClSt (fun k => k < w.heap.size) g (1 + sizeL (erL ks)) 0 [Nd.at ⟨op, tx, pl, kp, ks.length, kc⟩ 0 0 ks] [⟨op, tx, pl, kp, ks.length, kc⟩] W) := Lib.hid fun g W hW hl =>
    ClSt.start hl hkd (MemL.kept (fun k hk _ => hW.block k hk) (fun _ h _ => h) _ hm) rfl
  have HRT : Hid (er (Nd.at ⟨op, tx, pl, kp, ks.length, kc⟩ 0 0 ks) = Nd.t ⟨op, tx, pl, kp, ks.length, kc⟩ ks) := Lib.hid (by rw [Nd.at, er, Nd.t])
  have HX := Lib.hid hx
  have hz2 : 1 + sizeL (erL ks) ≤ 1000 := by omega
  clear h1 hkd hm hz hS hx
  generalize 1 + sizeL (erL ks) = S at *
  have HB0 := Lib.hid (Bx.new w ⟨op, tx, pl, kp, ks.length, kc⟩)
  go_enter Tryd.func26, Tryd.ntmps26
  simp only [Nd.val]
  simp only at HB0
  go_upto_region 1 with fail
  generalize ((w.alloc (.cells #[.string op, .string tx, .int .i64 pl, .slice kp ks.length kc] 25)).alloc (.cells #[.string ⟨#[]⟩, .string ⟨#[]⟩, .int .i64 0, .slice none 0 0] 25)) = W1 at *
  go_cut [3] (fun v3 wx => Hid (ClCut w S ⟨op, tx, pl, kp, ks.length, kc⟩ v3 wx))
  case first =>
    refine wp_region_held_drew (S := fun w' => w'.cell? ⟨w.heap.size, 0, none⟩ = some (.string op) ∧ w'.cell? ⟨w.heap.size, 1, none⟩ = some (.string tx) ∧ w'.cell? ⟨w.heap.size, 2, none⟩ = some (.int .i64 pl) ∧ w'.cell? ⟨w.heap.size, 3, none⟩ = some (.slice kp ks.length kc)) (by kernel_rfl) (HB0.out.drew.cells) (fun hHeld => ?_)
    have HB := Lib.hid HB0.out.drew
    clear HB0
    generalize W1.drew = w8 at *
    refine wpAnyH_take (i := 0) (oi := _) (v := ?_) rfl (by kernel_rfl) (by kernel_rfl) (by kernel_rfl) (fun _ _ _ h => h) (Or.inl ⟨by rfl, ?_⟩) (by assumption) ?_
    rotate_left
    · (intro w hSw; obtain ⟨q0, q1, q2, q3⟩ := hSw; go_simp; try with_reducible rfl)
    try simp only [List.getElem_toArray, List.getElem_cons_zero, Act.put, List.setIfInBounds_toArray, List.set_cons_zero, List.set_cons_succ]
    refine wpAnyH_take (i := 3) (oi := _) (v := ?_) rfl (by kernel_rfl) (by kernel_rfl) (by kernel_rfl) (fun _ _ _ h => h) (Or.inl ⟨by rfl, ?_⟩) (by assumption) ?_
    rotate_left
    · (intro w hSw; obtain ⟨q0, q1, q2, q3⟩ := hSw; go_simp; try with_reducible rfl)
    try simp only [List.getElem_toArray, List.getElem_cons_zero, List.getElem_cons_succ, Act.put, List.setIfInBounds_toArray, List.set_cons_zero, List.set_cons_succ]
    refine wpAnyH_ready (rs := [1, 4]) (by kernel_rfl) (by simp) ?_
    refine AllReadyH.cons (o := _) rfl (fun K hK => ?_) (AllReadyH.cons (o := _) rfl (fun K hK => ?_) AllReadyH.nil)
    · go_simp
      refine (C1.out _ HB.out.bel).mono ?_
      rintro e w8 ⟨rfl, hb8⟩
      have HB := Lib.hid (HB.out.next hb8)
      refine hK.out _ _ (HB.out.cells) (fun hHeld => ?_)
      clear hK K hb8
      try simp only [List.getElem_toArray, List.getElem_cons_zero, List.getElem_cons_succ, Act.put, List.setIfInBounds_toArray, List.set_cons_zero, List.set_cons_succ]
      refine wpAnyH_ready (rs := [2, 4]) (by kernel_rfl) (by simp) ?_
      refine AllReadyH.cons (o := _) rfl (fun K hK => ?_) (AllReadyH.cons (o := _) rfl (fun K hK => ?_) AllReadyH.nil)
      · obtain ⟨cur, hcur, hmk⟩ := make_nodes S (by omega) w8
        have hb8 : Below w8.heap.size w8 (w8.alloc (.cells cur 25)) := (Below.refl _ _).alloc (Nat.le_refl _) _
        have HLY := Lib.hid (Lay.new w8 S cur hcur)
        have HG : Hid (w.heap.size + 2 ≤ w8.heap.size) := Lib.hid (by have := as_lt HB.out.row; omega)
        go_simp
        have HB := Lib.hid (HB.out.next hb8)
        refine hK.out _ _ (HB.out.cells) (fun hHeld => ?_)
        clear hK K hb8
        generalize w8.heap.size = G at *
        generalize w8.alloc (.cells cur 25) = w8 at *
        try simp only [List.getElem_toArray, List.getElem_cons_zero, List.getElem_cons_succ, Act.put, List.setIfInBounds_toArray, List.set_cons_zero, List.set_cons_succ]
        refine wpAnyH_ready (rs := [4]) (by kernel_rfl) (by simp) ?_
        refine AllReadyH.cons (o := _) rfl (fun K hK => ?_) AllReadyH.nil
        · have hb8 : Below w8.heap.size w8 (w8.alloc (.cells #[.string op, .string tx, .int .i64 pl, .slice kp ks.length kc] 25)) := (Below.refl _ _).alloc (Nat.le_refl _) _
          have HNK := Lib.hid (node_new w8 ⟨op, tx, pl, kp, ks.length, kc⟩)
          go_simp
          have HLY := Lib.hid (HLY.out.kept (hb8.block _ HLY.out.lt))
          have HB := Lib.hid (HB.out.next hb8)
          refine hK.out _ _ (HB.out.cells) (fun hHeld => ?_)
          clear hK K hb8
          simp only at HNK
          generalize w8.heap.size = H at *
          generalize w8.alloc (.cells #[.string op, .string tx, .int .i64 pl, .slice kp ks.length kc] 25) = w8 at *
          try simp only [List.getElem_toArray, List.getElem_cons_zero, List.getElem_cons_succ, Act.put, List.setIfInBounds_toArray, List.set_cons_zero, List.set_cons_succ]
          refine wpAnyH_ready (rs := [5]) (by kernel_rfl) (by simp) ?_
          refine AllReadyH.cons (o := _) rfl (fun K hK => ?_) AllReadyH.nil
          rw [if_pos (by rfl)]
          obtain ⟨w9, hr9, hl9, ho9⟩ := lay_root HLY.out (by omega) HNK.out
          refine wp_append_runO (.tmp 9) (.tmp 11) 23 23 rfl _ _ rfl rfl _ _ hr9 ?_
          have HE : Hid (ClCut w S ⟨op, tx, pl, kp, ks.length, kc⟩ (.slice (some ⟨G, 0, none⟩) 1 S) w9) := Lib.hid ⟨G, rfl, hl9, (HB.out.clw HG.out).one ho9⟩
          have HC9 : Hid ((fun w' => w'.cell? ⟨w.heap.size, 0, none⟩ = some (.string op) ∧ w'.cell? ⟨w.heap.size, 1, none⟩ = some (.string tx) ∧ w'.cell? ⟨w.heap.size, 2, none⟩ = some (.int .i64 pl) ∧ w'.cell? ⟨w.heap.size, 3, none⟩ = some (.slice kp ks.length kc)) w9) := Lib.hid (by have h := HB.out.n.kept (ho9.block _ (by have := HG.out; omega)); exact ⟨h.c0, h.c1, h.c2, h.c3⟩)
          refine hK.out _ _ (HC9.out) (fun hHeld => ?_)
          clear hK K
          try simp only [List.getElem_toArray, List.getElem_cons_zero, List.getElem_cons_succ, Act.put, List.setIfInBounds_toArray, List.set_cons_zero, List.set_cons_succ]
          refine wpAnyH_take (i := 6) (oi := _) (v := ?_) rfl (by kernel_rfl) (by kernel_rfl) (by kernel_rfl) (fun _ _ _ h => h) (Or.inl ⟨by rfl, ?_⟩) (by assumption) ?_
          rotate_left
          · (intro w hSw; obtain ⟨q0, q1, q2, q3⟩ := hSw; go_simp; try with_reducible rfl)
          try simp only [List.getElem_toArray, List.getElem_cons_zero, List.getElem_cons_succ, Act.put, List.setIfInBounds_toArray, List.set_cons_zero, List.set_cons_succ]
          refine wpAnyH_done (by kernel_rfl) ?_ _
          go_wp2_with fail
          go_meet
          exact HE
      · have hb8 : Below w8.heap.size w8 (w8.alloc (.cells #[.string op, .string tx, .int .i64 pl, .slice kp ks.length kc] 25)) := (Below.refl _ _).alloc (Nat.le_refl _) _
        have HNK := Lib.hid (node_new w8 ⟨op, tx, pl, kp, ks.length, kc⟩)
        go_simp
        have HB := Lib.hid (HB.out.next hb8)
        refine hK.out _ _ (HB.out.cells) (fun hHeld => ?_)
        clear hK K hb8
        simp only at HNK
        generalize w8.heap.size = H at *
        generalize w8.alloc (.cells #[.string op, .string tx, .int .i64 pl, .slice kp ks.length kc] 25) = w8 at *
        try simp only [List.getElem_toArray, List.getElem_cons_zero, List.getElem_cons_succ, Act.put, List.setIfInBounds_toArray, List.set_cons_zero, List.set_cons_succ]
        refine wpAnyH_ready (rs := [2]) (by kernel_rfl) (by simp) ?_
        refine AllReadyH.cons (o := _) rfl (fun K hK => ?_) AllReadyH.nil
        · obtain ⟨cur, hcur, hmk⟩ := make_nodes S (by omega) w8
          have hb8 : Below w8.heap.size w8 (w8.alloc (.cells cur 25)) := (Below.refl _ _).alloc (Nat.le_refl _) _
          have HLY := Lib.hid (Lay.new w8 S cur hcur)
          have HG : Hid (w.heap.size + 2 ≤ w8.heap.size) := Lib.hid (by have := as_lt HB.out.row; omega)
          go_simp
          have HNK := Lib.hid (HNK.out.kept (hb8.block _ HNK.out.lt))
          have HB := Lib.hid (HB.out.next hb8)
          refine hK.out _ _ (HB.out.cells) (fun hHeld => ?_)
          clear hK K hb8
          generalize w8.heap.size = G at *
          generalize w8.alloc (.cells cur 25) = w8 at *
          try simp only [List.getElem_toArray, List.getElem_cons_zero, List.getElem_cons_succ, Act.put, List.setIfInBounds_toArray, List.set_cons_zero, List.set_cons_succ]
          refine wpAnyH_ready (rs := [5]) (by kernel_rfl) (by simp) ?_
          refine AllReadyH.cons (o := _) rfl (fun K hK => ?_) AllReadyH.nil
          rw [if_pos (by rfl)]
          obtain ⟨w9, hr9, hl9, ho9⟩ := lay_root HLY.out (by omega) HNK.out
          refine wp_append_runO (.tmp 9) (.tmp 11) 23 23 rfl _ _ rfl rfl _ _ hr9 ?_
          have HE : Hid (ClCut w S ⟨op, tx, pl, kp, ks.length, kc⟩ (.slice (some ⟨G, 0, none⟩) 1 S) w9) := Lib.hid ⟨G, rfl, hl9, (HB.out.clw HG.out).one ho9⟩
          have HC9 : Hid ((fun w' => w'.cell? ⟨w.heap.size, 0, none⟩ = some (.string op) ∧ w'.cell? ⟨w.heap.size, 1, none⟩ = some (.string tx) ∧ w'.cell? ⟨w.heap.size, 2, none⟩ = some (.int .i64 pl) ∧ w'.cell? ⟨w.heap.size, 3, none⟩ = some (.slice kp ks.length kc)) w9) := Lib.hid (by have h := HB.out.n.kept (ho9.block _ (by have := HG.out; omega)); exact ⟨h.c0, h.c1, h.c2, h.c3⟩)
          refine hK.out _ _ (HC9.out) (fun hHeld => ?_)
          clear hK K
          try simp only [List.getElem_toArray, List.getElem_cons_zero, List.getElem_cons_succ, Act.put, List.setIfInBounds_toArray, List.set_cons_zero, List.set_cons_succ]
          refine wpAnyH_take (i := 6) (oi := _) (v := ?_) rfl (by kernel_rfl) (by kernel_rfl) (by kernel_rfl) (fun _ _ _ h => h) (Or.inl ⟨by rfl, ?_⟩) (by assumption) ?_
          rotate_left
          · (intro w hSw; obtain ⟨q0, q1, q2, q3⟩ := hSw; go_simp; try with_reducible rfl)
          try simp only [List.getElem_toArray, List.getElem_cons_zero, List.getElem_cons_succ, Act.put, List.setIfInBounds_toArray, List.set_cons_zero, List.set_cons_succ]
          refine wpAnyH_done (by kernel_rfl) ?_ _
          go_wp2_with fail
          go_meet
          exact HE
    · have hb8 : Below w8.heap.size w8 (w8.alloc (.cells #[.string op, .string tx, .int .i64 pl, .slice kp ks.length kc] 25)) := (Below.refl _ _).alloc (Nat.le_refl _) _
      have HNK := Lib.hid (node_new w8 ⟨op, tx, pl, kp, ks.length, kc⟩)
      go_simp
      have HB := Lib.hid (HB.out.next hb8)
      refine hK.out _ _ (HB.out.cells) (fun hHeld => ?_)
      clear hK K hb8
      simp only at HNK
      generalize w8.heap.size = H at *
      generalize w8.alloc (.cells #[.string op, .string tx, .int .i64 pl, .slice kp ks.length kc] 25) = w8 at *
      try simp only [List.getElem_toArray, List.getElem_cons_zero, List.getElem_cons_succ, Act.put, List.setIfInBounds_toArray, List.set_cons_zero, List.set_cons_succ]
      refine wpAnyH_ready (rs := [1]) (by kernel_rfl) (by simp) ?_
      refine AllReadyH.cons (o := _) rfl (fun K hK => ?_) AllReadyH.nil
      · go_simp
        refine (C1.out _ HB.out.bel).mono ?_
        rintro e w8 ⟨rfl, hb8⟩
        have HNK := Lib.hid (HNK.out.kept (hb8.block _ HNK.out.lt))
        have HB := Lib.hid (HB.out.next hb8)
        refine hK.out _ _ (HB.out.cells) (fun hHeld => ?_)
        clear hK K hb8
        try simp only [List.getElem_toArray, List.getElem_cons_zero, List.getElem_cons_succ, Act.put, List.setIfInBounds_toArray, List.set_cons_zero, List.set_cons_succ]
        refine wpAnyH_ready (rs := [2]) (by kernel_rfl) (by simp) ?_
        refine AllReadyH.cons (o := _) rfl (fun K hK => ?_) AllReadyH.nil
        · obtain ⟨cur, hcur, hmk⟩ := make_nodes S (by omega) w8
          have hb8 : Below w8.heap.size w8 (w8.alloc (.cells cur 25)) := (Below.refl _ _).alloc (Nat.le_refl _) _
          have HLY := Lib.hid (Lay.new w8 S cur hcur)
          have HG : Hid (w.heap.size + 2 ≤ w8.heap.size) := Lib.hid (by have := as_lt HB.out.row; omega)
          go_simp
          have HNK := Lib.hid (HNK.out.kept (hb8.block _ HNK.out.lt))
          have HB := Lib.hid (HB.out.next hb8)
          refine hK.out _ _ (HB.out.cells) (fun hHeld => ?_)
          clear hK K hb8
          generalize w8.heap.size = G at *
          generalize w8.alloc (.cells cur 25) = w8 at *
          try simp only [List.getElem_toArray, List.getElem_cons_zero, List.getElem_cons_succ, Act.put, List.setIfInBounds_toArray, List.set_cons_zero, List.set_cons_succ]
          refine wpAnyH_ready (rs := [5]) (by kernel_rfl) (by simp) ?_
          refine AllReadyH.cons (o := _) rfl (fun K hK => ?_) AllReadyH.nil
          rw [if_pos (by rfl)]
          obtain ⟨w9, hr9, hl9, ho9⟩ := lay_root HLY.out (by omega) HNK.out
          refine wp_append_runO (.tmp 9) (.tmp 11) 23 23 rfl _ _ rfl rfl _ _ hr9 ?_
          have HE : Hid (ClCut w S ⟨op, tx, pl, kp, ks.length, kc⟩ (.slice (some ⟨G, 0, none⟩) 1 S) w9) := Lib.hid ⟨G, rfl, hl9, (HB.out.clw HG.out).one ho9⟩
          have HC9 : Hid ((fun w' => w'.cell? ⟨w.heap.size, 0, none⟩ = some (.string op) ∧ w'.cell? ⟨w.heap.size, 1, none⟩ = some (.string tx) ∧ w'.cell? ⟨w.heap.size, 2, none⟩ = some (.int .i64 pl) ∧ w'.cell? ⟨w.heap.size, 3, none⟩ = some (.slice kp ks.length kc)) w9) := Lib.hid (by have h := HB.out.n.kept (ho9.block _ (by have := HG.out; omega)); exact ⟨h.c0, h.c1, h.c2, h.c3⟩)
          refine hK.out _ _ (HC9.out) (fun hHeld => ?_)
          clear hK K
          try simp only [List.getElem_toArray, List.getElem_cons_zero, List.getElem_cons_succ, Act.put, List.setIfInBounds_toArray, List.set_cons_zero, List.set_cons_succ]
          refine wpAnyH_take (i := 6) (oi := _) (v := ?_) rfl (by kernel_rfl) (by kernel_rfl) (by kernel_rfl) (fun _ _ _ h => h) (Or.inl ⟨by rfl, ?_⟩) (by assumption) ?_
          rotate_left
          · (intro w hSw; obtain ⟨q0, q1, q2, q3⟩ := hSw; go_simp; try with_reducible rfl)
          try simp only [List.getElem_toArray, List.getElem_cons_zero, List.getElem_cons_succ, Act.put, List.setIfInBounds_toArray, List.set_cons_zero, List.set_cons_succ]
          refine wpAnyH_done (by kernel_rfl) ?_ _
          go_wp2_with fail
          go_meet
          exact HE
  case rest =>
    obtain ⟨g, rfl, hl, hcw⟩ := hcut.out
    have HCL := Lib.hid (HST.out g wc hcw.bel hl)
    have HCW := Lib.hid hcw
    clear hl hcw hcut HST C1 HB0
    go_wp2_with fail
    go_loopw [3, 4] (fun v3 v4 wr => ∃ (i : Nat) (X : List AT) (nds : List Nd), v3 = .slice (some ⟨g, 0, none⟩) nds.length S ∧ v4 = .int .i64 (i : Int) ∧ i ≤ nds.length ∧ nds.length ≤ S ∧ Hid (ClSt (fun k => k < w.heap.size) g S i X nds wr) ∧ Hid (X[0]? = some (Nd.at ⟨op, tx, pl, kp, ks.length, kc⟩ 0 0 ks)) ∧ Hid (∀ a ∈ X, TxOk (er a)) ∧ Hid (ClW w g wr)) (fun _ v4 _ => S - (intOf v4).toNat)
    case atStart => exact ⟨0, [Nd.at ⟨op, tx, pl, kp, ks.length, kc⟩ 0 0 ks], [⟨op, tx, pl, kp, ks.length, kc⟩], rfl, rfl, Nat.zero_le _, hS1, HCL, Lib.hid rfl, Lib.hid (fun a ha => by obtain rfl := List.mem_singleton.1 ha; rw [HRT.out]; exact HX.out), HCW⟩
    case round =>
      obtain ⟨i, X, nds, rfl, rfl, hin0, hnS, HC, HX0, HXT, HW⟩ := hrel
      clear HCL HCW
      by_cases hi : i < nds.length
      · have hii : (i : Int) < (nds.length : Int) := by omega
        have hiX : i < X.length := by rw [← HC.out.len]; exact hi
        have hfit := HC.out.fits hiX
        have htd := HC.out.todo i (Nat.le_refl _) hi hiX
        have hnn := HC.out.lay.node hi
        obtain ⟨hkd, hmm⟩ := HC.out.src _ (List.getElem_mem hiX)
        obtain ⟨ht1, ht2, ht3⟩ := (HXT.out _ (List.getElem_mem hiX)).at
        have hkl : X[i].nd.kn = X[i].ks.length := by cases X[i]; rfl
        have HTD := Lib.hid htd
        have HMM := Lib.hid hmm
        have HT3 := Lib.hid ht3
        rw [htd] at hnn
        have hrest : Hid (∀ (p : Option Addr) (c : Nat) (w' : World), (X[i].ks = [] ∨ p = some ⟨g, X.length * 4, none⟩) → Lay w' g S ((nds ++ X[i].ks.map AT.nd).set i { X[i].nd with kp := p, kn := X[i].ks.length, kc := c }) → OneB g w' w' → True) := Lib.hid (fun _ _ _ _ _ _ => trivial)
        clear hrest
        have HKD := Lib.hid hkd
        obtain ⟨⟨a1, a2, a3, a4, a5, a6⟩, hxn⟩ : ∃ n : Nd, n = (X[i]'hiX).nd := ⟨_, rfl⟩
        rw [← hxn] at hnn ht1 ht2 hkl hkd
        simp only at ht1 ht2 hkl hkd
        have HXN := Lib.hid hxn
        have HKS : Hid (X[i].ks.length = a5) := Lib.hid hkl.symm
        rw [← hkl] at hfit
        clear htd hmm ht3 hkl hxn
        have D1 := Lib.hid fun W => as_clone a1 W ht1
        have D2 := Lib.hid fun W => as_clone a2 W ht2
        obtain ⟨d0, d1, d2, d3⟩ := id hnn
        simp only at d0 d1 d2 d3
        have f0 := HC.out.lay.frozen (i * 4)
        have f1 := HC.out.lay.frozen (i * 4 + 1)
        clear hnn ht1 ht2
        go_wp2_with fail
        refine wp_region_L (st := [14, 17]) (S := fun w' => w'.cell? ⟨g, i * 4, none⟩ = some (.string a1) ∧ w'.cell? ⟨g, i * 4 + 1, none⟩ = some (.string a2)) (by kernel_rfl) (⟨d0, d1⟩) (fun hHeld => ?_)
        refine wpAnyL_take (i := 0) (oi := _) (v := ?_) rfl (by kernel_rfl) (by kernel_rfl) (by kernel_rfl) (by decide) (by kernel_rfl) (by kernel_rfl) (by kernel_rfl) (fun _ _ _ h => h) (Or.inl ⟨by rfl, ?_⟩) (by assumption) ?_
        rotate_left
        · (intro w hSw; obtain ⟨q0, q1⟩ := hSw; go_simp; try with_reducible rfl)
        try simp only [List.getElem_toArray, List.getElem_cons_zero, Act.put, List.setIfInBounds_toArray, List.set_cons_zero, List.set_cons_succ]
        refine wpAnyL_takeP (i := 1) (oi := _) (v := ?_) rfl (by kernel_rfl) (by kernel_rfl) (by kernel_rfl) (by decide) (fun _ _ _ h => h) (Or.inl ⟨by rfl, ?_⟩) (by assumption) ?_
        rotate_left
        · (intro w hSw; go_simp; try with_reducible rfl)
        try simp only [List.getElem_toArray, List.getElem_cons_zero, List.getElem_cons_succ, Act.put, List.setIfInBounds_toArray, List.set_cons_zero, List.set_cons_succ]
        refine wpAnyL_take (i := 2) (oi := _) (v := ?_) rfl (by kernel_rfl) (by kernel_rfl) (by kernel_rfl) (by decide) (by kernel_rfl) (by kernel_rfl) (by kernel_rfl) (fun _ _ _ h => h) (Or.inl ⟨by rfl, ?_⟩) (by assumption) ?_
        rotate_left
        · (intro w hSw; obtain ⟨q0, q1⟩ := hSw; go_simp; try with_reducible rfl)
        try simp only [List.getElem_toArray, List.getElem_cons_zero, List.getElem_cons_succ, Act.put, List.setIfInBounds_toArray, List.set_cons_zero, List.set_cons_succ]
        refine wpAnyL_take (i := 3) (oi := _) (v := ?_) rfl (by kernel_rfl) (by kernel_rfl) (by kernel_rfl) (by decide) (by kernel_rfl) (by kernel_rfl) (by kernel_rfl) (fun _ _ _ h => h) (Or.inl ⟨by rfl, ?_⟩) (by assumption) ?_
        rotate_left
        · (intro w hSw; obtain ⟨q0, q1⟩ := hSw; go_simp; try with_reducible rfl)
        try simp only [List.getElem_toArray, List.getElem_cons_zero, List.getElem_cons_succ, Act.put, List.setIfInBounds_toArray, List.set_cons_zero, List.set_cons_succ]
        refine wpAnyL_take (i := 4) (oi := _) (v := ?_) rfl (by kernel_rfl) (by kernel_rfl) (by kernel_rfl) (by decide) (by kernel_rfl) (by kernel_rfl) (by kernel_rfl) (fun _ _ _ h => h) (Or.inl ⟨by rfl, ?_⟩) (by assumption) ?_
        rotate_left
        · (intro w hSw; obtain ⟨q0, q1⟩ := hSw; go_simp; try with_reducible rfl)
        try simp only [List.getElem_toArray, List.getElem_cons_zero, List.getElem_cons_succ, Act.put, List.setIfInBounds_toArray, List.set_cons_zero, List.set_cons_succ]
        refine wpAnyL_take (i := 5) (oi := _) (v := ?_) rfl (by kernel_rfl) (by kernel_rfl) (by kernel_rfl) (by decide) (by kernel_rfl) (by kernel_rfl) (by kernel_rfl) (fun _ _ _ h => h) (Or.inl ⟨by rfl, ?_⟩) (by assumption) ?_
        rotate_left
        · (intro w hSw; obtain ⟨q0, q1⟩ := hSw; go_simp; try with_reducible rfl)
        try simp only [List.getElem_toArray, List.getElem_cons_zero, List.getElem_cons_succ, Act.put, List.setIfInBounds_toArray, List.set_cons_zero, List.set_cons_succ]
        refine wpAnyL_take (i := 7) (oi := _) (v := ?_) rfl (by kernel_rfl) (by kernel_rfl) (by kernel_rfl) (by decide) (by kernel_rfl) (by kernel_rfl) (by kernel_rfl) (fun _ _ _ h => h) (Or.inl ⟨by rfl, ?_⟩) (by assumption) ?_
        rotate_left
        · (intro w hSw; obtain ⟨q0, q1⟩ := hSw; go_simp; try with_reducible rfl)
        try simp only [List.getElem_toArray, List.getElem_cons_zero, List.getElem_cons_succ, Act.put, List.setIfInBounds_toArray, List.set_cons_zero, List.set_cons_succ]
        refine wpAnyL_take (i := 8) (oi := _) (v := ?_) rfl (by kernel_rfl) (by kernel_rfl) (by kernel_rfl) (by decide) (by kernel_rfl) (by kernel_rfl) (by kernel_rfl) (fun _ _ _ h => h) (Or.inl ⟨by rfl, ?_⟩) (by assumption) ?_
        rotate_left
        · (intro w hSw; obtain ⟨q0, q1⟩ := hSw; go_simp; try with_reducible rfl)
        try simp only [List.getElem_toArray, List.getElem_cons_zero, List.getElem_cons_succ, Act.put, List.setIfInBounds_toArray, List.set_cons_zero, List.set_cons_succ]
        refine wpAnyL_take (i := 9) (oi := _) (v := ?_) rfl (by kernel_rfl) (by kernel_rfl) (by kernel_rfl) (by decide) (by kernel_rfl) (by kernel_rfl) (by kernel_rfl) (fun _ _ _ h => h) (Or.inl ⟨by rfl, ?_⟩) (by assumption) ?_
        rotate_left
        · (intro w hSw; obtain ⟨q0, q1⟩ := hSw; go_simp; try with_reducible rfl)
        try simp only [List.getElem_toArray, List.getElem_cons_zero, List.getElem_cons_succ, Act.put, List.setIfInBounds_toArray, List.set_cons_zero, List.set_cons_succ]
        refine wpAnyL_take (i := 10) (oi := _) (v := ?_) rfl (by kernel_rfl) (by kernel_rfl) (by kernel_rfl) (by decide) (by kernel_rfl) (by kernel_rfl) (by kernel_rfl) (fun _ _ _ h => h) (Or.inl ⟨by rfl, ?_⟩) (by assumption) ?_
        rotate_left
        · (intro w hSw; obtain ⟨q0, q1⟩ := hSw; go_simp; try with_reducible rfl)
        try simp only [List.getElem_toArray, List.getElem_cons_zero, List.getElem_cons_succ, Act.put, List.setIfInBounds_toArray, List.set_cons_zero, List.set_cons_succ]
        have HC := Lib.hid (show ClSt (fun k => k < w.heap.size) g S i X nds wr.drew from HC.out.kept (fun _ _ _ => rfl))
        have HW := Lib.hid (show ClW w g wr.drew from ⟨HW.out.bel.drew, HW.out.hg, HW.out.row⟩)
        refine wpAnyL_ready (rs := [6]) (by kernel_rfl) (by simp) ?_
        refine AllReadyL.cons (o := _) rfl (fun K hK => ?_) AllReadyL.nil
        go_simp
        refine (D1.out _).mono ?_
        rintro e w8 ⟨rfl, hb8⟩
        have HC := Lib.hid (HC.out.kept (fun k _ hl => hb8.block k hl))
        have HW := Lib.hid (HW.out.next hb8)
        have HS6 : Hid ((fun w' => w'.cell? ⟨g, i * 4, none⟩ = some (.string a1) ∧ w'.cell? ⟨g, i * 4 + 1, none⟩ = some (.string a2)) w8) := Lib.hid ⟨(hb8.cell (p := ⟨g, i * 4, none⟩) (World.block_lt_of_cell? _ _ hHeld.1)).trans hHeld.1, (hb8.cell (p := ⟨g, i * 4 + 1, none⟩) (World.block_lt_of_cell? _ _ hHeld.2)).trans hHeld.2⟩
        clear hb8
        refine hK.out _ _ (HS6.out) (fun hHeld => ?_)
        clear hK K
        try simp only [List.getElem_toArray, List.getElem_cons_zero, List.getElem_cons_succ, Act.put, List.setIfInBounds_toArray, List.set_cons_zero, List.set_cons_succ]
        refine wpAnyL_ready (rs := [11]) (by kernel_rfl) (by simp) ?_
        refine AllReadyL.cons (o := _) rfl (fun K hK => ?_) AllReadyL.nil
        go_simp
        refine (D2.out _).mono ?_
        rintro e w8 ⟨rfl, hb8⟩
        have HC := Lib.hid (HC.out.kept (fun k _ hl => hb8.block k hl))
        have HW := Lib.hid (HW.out.next hb8)
        have HS6 : Hid ((fun w' => w'.cell? ⟨g, i * 4, none⟩ = some (.string a1) ∧ w'.cell? ⟨g, i * 4 + 1, none⟩ = some (.string a2)) w8) := Lib.hid ⟨(hb8.cell (p := ⟨g, i * 4, none⟩) (World.block_lt_of_cell? _ _ hHeld.1)).trans hHeld.1, (hb8.cell (p := ⟨g, i * 4 + 1, none⟩) (World.block_lt_of_cell? _ _ hHeld.2)).trans hHeld.2⟩
        clear hb8
        refine hK.out _ _ (HS6.out) (fun hHeld => ?_)
        clear hK K
        try simp only [List.getElem_toArray, List.getElem_cons_zero, List.getElem_cons_succ, Act.put, List.setIfInBounds_toArray, List.set_cons_zero, List.set_cons_succ]
        refine wpAnyL_take (i := 12) (oi := _) (v := ?_) rfl (by kernel_rfl) (by kernel_rfl) (by kernel_rfl) (by decide) (by kernel_rfl) (by kernel_rfl) (by kernel_rfl) (fun _ _ _ h => h) (Or.inl ⟨by rfl, ?_⟩) (by assumption) ?_
        rotate_left
        · (intro w hSw; obtain ⟨q0, q1⟩ := hSw; go_simp; try with_reducible rfl)
        try simp only [List.getElem_toArray, List.getElem_cons_zero, List.getElem_cons_succ, Act.put, List.setIfInBounds_toArray, List.set_cons_zero, List.set_cons_succ]
        refine wpAnyL_take (i := 13) (oi := _) (v := ?_) rfl (by kernel_rfl) (by kernel_rfl) (by kernel_rfl) (by decide) (by kernel_rfl) (by kernel_rfl) (by kernel_rfl) (fun _ _ _ h => h) (Or.inl ⟨by rfl, ?_⟩) (by assumption) ?_
        rotate_left
        · (intro w hSw; obtain ⟨q0, q1⟩ := hSw; go_simp; try with_reducible rfl)
        try simp only [List.getElem_toArray, List.getElem_cons_zero, List.getElem_cons_succ, Act.put, List.setIfInBounds_toArray, List.set_cons_zero, List.set_cons_succ]
        obtain ⟨q0, q1⟩ := hHeld
        have f0 := HC.out.lay.frozen (i * 4)
        have f1 := HC.out.lay.frozen (i * 4 + 1)
        have hro0 : (ndRow nds)[i * 4]? = some (.string a1) := by rw [← HC.out.lay.cell (by omega)]; exact q0
        have hro1 : (ndRow nds)[i * 4 + 1]? = some (.string a2) := by rw [← HC.out.lay.cell (by omega)]; exact q1
        have hl1 := HC.out.lay.same _ _ hro0
        have hl2 := hl1.same _ _ hro1
        have HC1 := Lib.hid (HC.out.move hl1 (fun k hk _ => ((OneB.refl g w8).set (i * 4) (.string a1)).block k hk) (by have := HW.out.hg; omega))
        have HC2 := Lib.hid (HC.out.move hl2 (fun k hk _ => (((OneB.refl g w8).set (i * 4) (.string a1)).set (i * 4 + 1) (.string a2)).block k hk) (by have := HW.out.hg; omega))
        have HW2 := Lib.hid ((HW.out.set (i * 4) (.string a1)).set (i * 4 + 1) (.string a2))
        have p0 : (w8.setCell ⟨g, i * 4, none⟩ (.string a1)).cell? ⟨g, i * 4, none⟩ = some (.string a1) := by rw [hl1.cell (by omega)]; exact hro0
        have p1 : (w8.setCell ⟨g, i * 4, none⟩ (.string a1)).cell? ⟨g, i * 4 + 1, none⟩ = some (.string a2) := by rw [hl1.cell (by omega)]; exact hro1
        clear hl1 hl2 hro0 hro1 HC HW D1 D2
        refine wpAnyL_ready (rs := [14]) (by kernel_rfl) (by simp) ?_
        refine AllReadyL.store (o := _) rfl (by decide) (by decide) (fun K hK => ?_) AllReadyL.nil
        go_simp
        refine hK.out _ _ ?_
        clear hK K
        try simp only [List.getElem_toArray, List.getElem_cons_zero, List.getElem_cons_succ, Act.put, List.setIfInBounds_toArray, List.set_cons_zero, List.set_cons_succ]
        refine wpAnyL_ready (rs := [15]) (by kernel_rfl) (by simp) ?_
        refine AllReadyL.cons (o := _) rfl (fun K hK => ?_) AllReadyL.nil
        go_simp
        refine hK.out _ _ (⟨p0, p1⟩) (fun hHeld => ?_)
        clear hK K
        try simp only [List.getElem_toArray, List.getElem_cons_zero, List.getElem_cons_succ, Act.put, List.setIfInBounds_toArray, List.set_cons_zero, List.set_cons_succ]
        refine wpAnyL_ready (rs := [16]) (by kernel_rfl) (by simp) ?_
        refine AllReadyL.cons (o := _) rfl (fun K hK => ?_) AllReadyL.nil
        go_simp
        refine hK.out _ _ (⟨p0, p1⟩) (fun hHeld => ?_)
        clear hK K
        try simp only [List.getElem_toArray, List.getElem_cons_zero, List.getElem_cons_succ, Act.put, List.setIfInBounds_toArray, List.set_cons_zero, List.set_cons_succ]
        have f2 : (w8.setCell ⟨g, i * 4, none⟩ (.string a1)).frozen? ⟨g, i * 4 + 1, none⟩ = false := HC1.out.lay.frozen _
        refine wpAnyL_ready (rs := [17]) (by kernel_rfl) (by simp) ?_
        refine AllReadyL.store (o := _) rfl (by decide) (by decide) (fun K hK => ?_) AllReadyL.nil
        go_simp
        refine hK.out _ _ ?_
        clear hK K
        try simp only [List.getElem_toArray, List.getElem_cons_zero, List.getElem_cons_succ, Act.put, List.setIfInBounds_toArray, List.set_cons_zero, List.set_cons_succ]
        refine wpAnyL_done (by kernel_rfl) ?_ _
        clear p0 p1 f0 f1 f2 q0 q1 hHeld HC1 d0 d1 d2 d3
        generalize ((w8.setCell ⟨g, i * 4, none⟩ (.string a1)).setCell ⟨g, i * 4 + 1, none⟩ (.string a2)) = w9 at *
        have hn9 := HC2.out.lay.node hi
        rw [HTD.out, ← HXN.out] at hn9
        have q3 := hn9.c3
        have f3 := HC2.out.lay.frozen (i * 4 + 3)
        simp only at q3
        clear hn9
        cases a4 with
        | none =>
          have hk0 : X[i].ks = [] := by
            rcases hkd with h | ⟨_, _, h, _⟩
            · exact h
            · cases h
          have hk1 : a5 = 0 := by have := HKS.out; rw [hk0] at this; simpa using this.symm
          have HN : Hid (ClSt (fun k => k < w.heap.size) g S (i + 1) (X ++ X[i].ks) ((nds ++ X[i].ks.map AT.nd).set i { nds[i] with kp := none, kn := X[i].ks.length, kc := a6 }) w9) := Lib.hid (by
            refine HC2.out.step hiX hi none a6 (.inl hk0) ?_ (fun _ _ _ => rfl) (by have := HW2.out.hg; omega)
            have e : ({ nds[i] with kp := none, kn := X[i].ks.length, kc := a6 } : Nd) = nds[i] := by rw [HTD.out, ← HXN.out, hk0, hk1]; rfl
            rw [e, hk0]
            simpa using HC2.out.lay)
          have HL : Hid (((nds ++ X[i].ks.map AT.nd).set i { nds[i] with kp := none, kn := X[i].ks.length, kc := a6 }).length = nds.length) := Lib.hid (by rw [hk0]; simp)
          have HXN2 : Hid ((X ++ X[i].ks)[0]? = some (Nd.at ⟨op, tx, pl, kp, ks.length, kc⟩ 0 0 ks)) := Lib.hid (by rw [hk0, List.append_nil]; exact HX0.out)
          have HXT2 : Hid (∀ a ∈ X ++ X[i].ks, TxOk (er a)) := Lib.hid (by rw [hk0, List.append_nil]; exact HXT.out)
          clear hk0 hkd HKD HC2 HX0 HXT HTD HMM HT3 HXN HKS
          subst hk1
          generalize X ++ X[i].ks = X2 at *
          generalize (nds ++ X[i].ks.map AT.nd).set i { nds[i] with kp := none, kn := X[i].ks.length, kc := a6 } = nds2 at *
          go_wp2_with fail
          go_roundw
          case rel => exact ⟨i + 1, X2, nds2, by rw [HL.out], by simp, by rw [HL.out]; omega, by rw [HL.out]; omega, HN, HXN2, HXT2, HW2⟩
          case measure => simp [intOf]; omega
        | some q =>
          obtain ⟨wA, hr9, hl9, ho9⟩ := append_lay (ms := X[i].ks.map AT.nd) (p := some q) (c := a6) HC2.out.lay (by
            rcases hkd with h | ⟨kg, ko, h1, h2⟩
            · left; rw [h]; rfl
            · right
              refine ⟨kg, ko, h1, fun r hr => ?_⟩
              have hr' : r < X[i].ks.length := by simpa using hr
              have hq := (Mem.iff.1 ((HC2.out.src _ (List.getElem_mem hiX)).2.all _ (List.getElem_mem hr'))).2.1
              rw [(h2 r hr').1, (h2 r hr').2] at hq
              rw [List.getElem_map]; exact hq) (by rw [List.length_map, HKS.out]; exact hfit) 23
          rw [List.length_map, HKS.out] at hr9
          have hiA : i < (nds ++ X[i].ks.map AT.nd).length := by rw [List.length_append]; omega
          have heA : (nds ++ X[i].ks.map AT.nd)[i] = nds[i] := List.getElem_append_left hi
          have hnA := hl9.node hiA
          rw [heA, HTD.out, ← HXN.out] at hnA
          have q3A := hnA.c3
          have f3A := hl9.frozen (i * 4 + 3)
          simp only at q3A
          have hsl := slice3_run g nds.length a5 S hfit
          have hP0 : X[i].ks = [] ∨ (if a5 = 0 then some (⟨g, 0, none⟩ : Addr) else some ⟨g, nds.length * 4, none⟩) = some ⟨g, X.length * 4, none⟩ := by
            by_cases h0 : a5 = 0
            · left; exact List.eq_nil_of_length_eq_zero (HKS.out.trans h0)
            · right; rw [if_neg h0, HC2.out.len]
          generalize (if a5 = 0 then some (⟨g, 0, none⟩ : Addr) else some ⟨g, nds.length * 4, none⟩) = P at *
          have HN : Hid (ClSt (fun k => k < w.heap.size) g S (i + 1) (X ++ X[i].ks) ((nds ++ X[i].ks.map AT.nd).set i { nds[i] with kp := P, kn := X[i].ks.length, kc := a5 }) (wA.setCell ⟨g, i * 4 + 3, none⟩ (.slice P a5 a5))) := Lib.hid (by
            refine HC2.out.step hiX hi P a5 hP0 ?_ (fun k hk _ => (ho9.set (i * 4 + 3) _).block k hk) (by have := HW2.out.hg; omega)
            have hk := hl9.kid hiA P a5 a5
            rw [heA] at hk
            rw [HKS.out]
            exact hk)
          have HW3 := Lib.hid ((HW2.out.one ho9).set (i * 4 + 3) (.slice P a5 a5))
          have HL : Hid (((nds ++ X[i].ks.map AT.nd).set i { nds[i] with kp := P, kn := X[i].ks.length, kc := a5 }).length = nds.length + a5) := Lib.hid (by rw [List.length_set, List.length_append, List.length_map, HKS.out])
          have HXN2 : Hid ((X ++ X[i].ks)[0]? = some (Nd.at ⟨op, tx, pl, kp, ks.length, kc⟩ 0 0 ks)) := Lib.hid (by rw [List.getElem?_append_left (by have := hiX; omega)]; exact HX0.out)
          have HXT2 : Hid (∀ a ∈ X ++ X[i].ks, TxOk (er a)) := Lib.hid (fun a ha => (List.mem_append.1 ha).elim (HXT.out a) (HT3.out a))
          clear hkd HKD HC2 HX0 HXT HTD HMM HT3 HXN HKS hnA heA hl9 ho9 hiA HW2 hP0
          generalize X ++ X[i].ks = X2 at *
          generalize (nds ++ X[i].ks.map AT.nd).set i { nds[i] with kp := P, kn := X[i].ks.length, kc := a5 } = nds2 at *
          go_wp2_with (at_builtin; refine as_append_run _ rfl (.tmp 45) (.tmp 49) 23 23 rfl _ _ rfl rfl _ _ hr9 ?_)
          rintro v2 w2 ⟨rfl⟩ ⟨rfl⟩
          go_wp2_with fail
          go_roundw
          case rel => exact ⟨i + 1, X2, nds2, by rw [HL.out], by simp, by rw [HL.out]; omega, by rw [HL.out]; omega, HN, HXN2, HXT2, HW3⟩
          case measure => simp [intOf]; omega
      · obtain rfl : i = nds.length := by omega
        have hii : ¬ ((nds.length : Int) < (nds.length : Int)) := by omega
        have hlen := HC.out.len
        have hce := HC.out
        rw [show ClSt (fun k => k < w.heap.size) g S nds.length X nds wr = ClSt (fun k => k < w.heap.size) g S X.length X nds wr from by rw [hlen]] at hce
        obtain ⟨⟨r1, r2, r3, r4, r5, r6⟩, hn0, ks2, htv, hte⟩ := hce.end HX0.out
        have hpos : 0 < nds.length := by have := (List.getElem?_eq_some_iff.1 HX0.out).1; omega
        have hposi : (0 : Int) < (nds.length : Int) := by omega
        obtain ⟨e0, e1, e2, e3⟩ := hn0
        simp only [Nat.zero_add] at e0 e1 e2 e3
        have hrow := HW.out.row
        have g0 : wr.cell? ⟨w.heap.size + 1, 0, none⟩ = some (.string ⟨#[]⟩) := as_cell hrow
        have g1 : wr.cell? ⟨w.heap.size + 1, 1, none⟩ = some (.string ⟨#[]⟩) := as_cell hrow
        have g2 : wr.cell? ⟨w.heap.size + 1, 2, none⟩ = some (.int .i64 0) := as_cell hrow
        have g3 : wr.cell? ⟨w.heap.size + 1, 3, none⟩ = some (.slice none 0 0) := as_cell hrow
        have k0 : wr.frozen? ⟨w.heap.size + 1, 0, none⟩ = false := as_frozen hrow
        have k1 : wr.frozen? ⟨w.heap.size + 1, 1, none⟩ = false := as_frozen hrow
        have k2 : wr.frozen? ⟨w.heap.size + 1, 2, none⟩ = false := as_frozen hrow
        have k3 : wr.frozen? ⟨w.heap.size + 1, 3, none⟩ = false := as_frozen hrow
        have HE : Hid (GgPost (Nd.t ⟨op, tx, pl, kp, ks.length, kc⟩ ks) w (.returned (.agg #[.string r1, .string r2, .int .i64 r3, .slice r4 r5 r6])) (put4 wr (w.heap.size + 1) ⟨r1, r2, r3, r4, r5, r6⟩)) := Lib.hid
          ⟨⟨r1, r2, r3, r4, r5, r6⟩, rfl, ⟨ks2, htv.kept (fun k hk _ => put4_block (by have := HW.out.hg; show k ≠ _; rw [show k = g from hk]; omega) _) (fun k hk _ => by have := HW.out.hg; rw [show k = g from hk]; omega), by rw [hte, HRT.out]⟩, put4_below HW.out.bel (by omega) _⟩
        clear hce htv hte hlen HC HW HX0 HXT hrow
        go_wp2_with fail
        refine bodyPost_ret (v := .agg #[.string r1, .string r2, .int .i64 r3, .slice r4 r5 r6]) ?_ rfl HE.out
        simp [results, Tryd.results26, go_sem, g0, g1, g2, g3]
end Go.Proofs.YtgahamppfdhnaaaDoor
