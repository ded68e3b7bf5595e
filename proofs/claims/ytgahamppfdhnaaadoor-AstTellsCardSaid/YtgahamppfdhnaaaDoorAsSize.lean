/-
  CONTRACTS of layer 12's each, Size, Depth.
-/
import Derived.Test.YtgahamppfdhnaaaDoorAsVis
import Derived.Lib.MinMax
namespace Go.Proofs.YtgahamppfdhnaaaDoor
open Go.RowKit Go.Shelf
attribute [local go_sem] Oper.semAt_some

theorem as_heap_new (w : World) (o : Obj) : (w.alloc o).heap[w.heap.size]? = some o := by
  show (w.heap.push _)[w.heap.size]? = _
  exact Array.getElem?_push_size
theorem each_call (g o : Nat) (w : World) :
    Calls Tryd.prog 28 #[.pointer (some ⟨g, o, none⟩)] w fun e w' => ∃ bs, e = .returned (.func (.func 34) #[] #[.pointer (some ⟨bs, 0, none⟩)]) ∧ w.heap.size ≤ bs ∧ w'.heap[bs]? = some (.cells #[.pointer (some ⟨g, o, none⟩)] 65 (0, 0)) ∧ Below w.heap.size w w' := by
  go_enter Tryd.func28, Tryd.ntmps28
  go_wp2
  go_ret
  exact ⟨w.heap.size, rfl, Nat.le_refl _, as_heap_new _ _, (Below.refl _ _).alloc (Nat.le_refl _) _⟩
/-- What the iterator reads. -/
def KpT (B : Nat → Prop) (bs : Nat) (a : AT) (W : World) : Prop := W.heap[bs]? = some (.cells #[.pointer (some ⟨a.g, a.o, none⟩)] 65 (0, 0)) ∧ Mem W B a
theorem KpT.put {B : Nat → Prop} {bs : Nat} {a : AT} {W : World} {k : Nat} {r : Loop} (h : KpT B bs a W) (hl : W.heap[k]? = some (.loop r)) (o : Obj) : KpT B bs a (W.putObj k o) :=
  ⟨(World.putObj_heap_other (fun e => by subst e; have := h.1; rw [hl] at this; cases this)).trans h.1, h.2.put hl o⟩
theorem KpT.kept {B : Nat → Prop} {bs : Nat} {a : AT} {W W' : World} (h : KpT B bs a W) (hk : ∀ k, (k = bs ∨ B k) → k < W.heap.size → W'.heap[k]? = W.heap[k]?) : KpT B bs a W' :=
  ⟨(hk bs (.inl rfl) (Array.getElem?_eq_some_iff.1 h.1).1).trans h.1, Mem.kept (fun g hg hl => hk g (.inr hg) hl) (fun _ h _ => h) a h.2⟩
set_option maxHeartbeats 4000000 in
set_option maxRecDepth 100000 in
theorem each_seq {B : Nat → Prop} {a : AT} (hz : (er a).size ≤ 1000000000) (bs n : Nat) :
    SeqQ Fence.wide n Tryd.prog 34 #[.pointer (some ⟨bs, 0, none⟩)] encF (· = flat 0 a) (· <+: flat 0 a) ((flat 0 a).length + 1) (KpT B bs a) := by
  intro l J Jx W hK hY h0
  have hbs : W.cell? ⟨bs, 0, none⟩ = some (.pointer (some ⟨a.g, a.o, none⟩)) := by simp [World.cell?, hK.1]
  have HV := Lib.hid (visit_any a (n - 1) l 0 (flat 0 a) J Jx (KpT B bs a) [] W (fun W h => h.2.mono fun _ _ _ => trivial) (fun p x W1 m h1 h2 h3 => yieldAt_wide (hY p x W1 h1 h2 (by have := h3.length_le; simp at this; omega) h3)) (by omega) (by simp) hK h0)
  clear hY hK h0
  refine callsIn_of_wp Tryd.func34 rfl trivial ?_ rfl
  simp only [Tryd.ntmps34, List.size_toArray, List.length_cons, List.length_nil, Nat.reduceAdd, Nat.reduceSub, Array.replicate_succ, Array.replicate_zero, List.push_toArray, List.append_toArray, List.nil_append, List.cons_append]
  gi_wp2_with fail
  refine ⟨trivial, by simp [Fence.wide], HV.out.mono ?_⟩
  rintro e W3 ⟨hk3, h⟩
  have HE : Hid (KpT B bs a W3 ∧ ((∃ xs, xs = flat 0 a ∧ J xs W3) ∨ (∃ pre, pre <+: flat 0 a ∧ Jx pre W3))) := Lib.hid ⟨hk3, h.imp (fun h => ⟨_, rfl, by simpa using h.2⟩) (fun h => h.2)⟩
  obtain ⟨v, rfl⟩ : ∃ v, e = .returned (.bool v) := by
    rcases h with ⟨rfl, _⟩ | ⟨rfl, _⟩
    · exact ⟨_, rfl⟩
    · exact ⟨_, rfl⟩
  clear h hk3 HV
  gi_wp2_with fail
  go_end0
  exact ⟨⟨_, rfl⟩, HE.out⟩
/-- A cell of an int that may be written. -/
structure IC (w : World) (b : Nat) (v : Int) : Prop where
  c : w.cell? ⟨b, 0, none⟩ = some (.int .i64 v)
  f : w.frozen? ⟨b, 0, none⟩ = false
theorem IC.lt {w : World} {b : Nat} {v : Int} (h : IC w b v) : b < w.heap.size := World.block_lt_of_cell? _ _ h.c
theorem IC.kept {w w' : World} {b : Nat} {v : Int} (h : IC w b v) (hk : w'.heap[b]? = w.heap[b]?) : IC w' b v := ⟨(World.cell?_of_block (a := ⟨b, 0, none⟩) hk).trans h.c, (World.frozen?_of_block (a := ⟨b, 0, none⟩) hk).trans h.f⟩
theorem IC.next {w w' : World} {b : Nat} {v : Int} (h : IC w b v) (hb : Below w.heap.size w w') : IC w' b v := h.kept (hb.block b h.lt)
theorem IC.loop {w : World} {b k : Nat} {v : Int} {r : Loop} (h : IC w b v) (hk : w.heap[k]? = some (.loop r)) (o : Obj) : IC (w.putObj k o) b v := h.kept (World.putObj_heap_other (fun e => by
  subst e
  have h0 := h.c
  simp [World.cell?, hk] at h0))
theorem IC.set {w : World} {b : Nat} {v : Int} (h : IC w b v) (x : Int) : IC (w.setCell ⟨b, 0, none⟩ (.int .i64 x)) b x := ⟨World.cell?_setCell_same w ⟨b, 0, none⟩ (.int .i64 x) h.c, by rw [World.frozen?_setCell]; exact h.f⟩
theorem IC.new (w : World) (v : Int) : IC (w.alloc (.cells #[.int .i64 v] 3)) w.heap.size v := ⟨by simp [go_sem], by simp [go_sem]⟩
theorem below_put {n k : Nat} {A W : World} (h : Below n A W) (hk : n ≤ k) (o : Obj) : Below n A (W.putObj k o) :=
  ⟨h.os, h.tape, h.output, by rw [World.putObj_size]; exact h.size, fun j hj => (World.putObj_heap_other (by omega)).trans (h.block j hj)⟩
theorem two_set {D : Nat} {W : World} {b : Nat} (h1 : D ≠ b) (h2 : D + 1 ≠ b) (v : Value) : Two D W (W.setCell ⟨b, 0, none⟩ v) :=
  ⟨Below.heap_setCell W ⟨b, 0, none⟩ v D h1, Below.heap_setCell W ⟨b, 0, none⟩ v (D + 1) h2⟩

set_option maxHeartbeats 4000000 in
set_option maxRecDepth 100000 in
theorem size_any (nd : Nd) (ks : List AT) (B : Nat → Prop) (w : World) (h : TV w B nd ks) (hz : (nd.t ks).size ≤ 1000000000) :
    Calls Tryd.prog 17 #[nd.val] w fun e w' => e = .returned (.int .i64 ((nd.t ks).size : Int)) ∧ Below w.heap.size w w' := by
  refine (callsIn_wide (n := 6)).1 ?_
  refine callsIn_of_wp_marks Tryd.func17 rfl trivial ?_ rfl
  simp only [Tryd.ntmps17, List.size_toArray, List.length_cons, List.length_nil, Nat.reduceAdd, Nat.reduceSub, Array.replicate_succ, Array.replicate_zero, List.push_toArray, List.append_toArray, List.nil_append, List.cons_append]
  have t1 : Fence.wide.fn 28 := trivial
  have hn0 := node_new w nd
  have hb1 : Below w.heap.size w (w.alloc (.cells #[.string nd.op, .string nd.tx, .int .i64 nd.pl, .slice nd.kp nd.kn nd.kc] 25)) := (Below.refl _ _).alloc (Nat.le_refl _) _
  have hz1 : (w.alloc (.cells #[.string nd.op, .string nd.tx, .int .i64 nd.pl, .slice nd.kp nd.kn nd.kc] 25)).heap.size = w.heap.size + 1 := by simp
  simp only [Nd.val] at *
  generalize hW1 : w.alloc (.cells #[.string nd.op, .string nd.tx, .int .i64 nd.pl, .slice nd.kp nd.kn nd.kc] 25) = W1 at *
  have hb2 : Below W1.heap.size W1 (W1.alloc (.cells #[.int .i64 0] 3)) := (Below.refl _ _).alloc (Nat.le_refl _) _
  have hz2 : (W1.alloc (.cells #[.int .i64 0] 3)).heap.size = w.heap.size + 2 := by simp [hz1]
  have hic := IC.new W1 0
  rw [hz1] at hic
  have hmem : Mem (W1.alloc (.cells #[.int .i64 0] 3)) (fun g => g ≠ w.heap.size + 1) (nd.at w.heap.size 0 ks) := by
    refine Mem.next ?_ hb2
    refine TV.at (h.kept (fun g _ hl => hb1.block g hl) (fun g _ hl => ?_)) ?_ hn0
    · show g ≠ w.heap.size + 1; omega
    · show w.heap.size ≠ w.heap.size + 1; omega
  have hb12 := hb1.trans (hb2.mono (by omega : w.heap.size ≤ W1.heap.size))
  have her : (er (nd.at w.heap.size 0 ks)) = nd.t ks := by simp [Nd.at, er, Nd.t]
  have HB12 := Lib.hid hb12
  have HIC := Lib.hid hic
  have HMEM := Lib.hid hmem
  have HER := Lib.hid her
  clear hb1 hb2 hn0 hic hmem her hb12 h
  gi_wp2_with fail
  try rw [hW1]
  try simp only [hz1]
  generalize W1.alloc (.cells #[.int .i64 0] 3) = W2 at *
  refine (callsIn_wide.2 (each_call w.heap.size 0 W2)).mono ?_
  rintro e w5 ⟨bs, rfl, hbs, hbk, hb5⟩
  have HKP : Hid (KpT (fun g => g ≠ w.heap.size + 1) bs (nd.at w.heap.size 0 ks) w5) := Lib.hid ⟨hbk, HMEM.out.next hb5⟩
  have HIC5 := Lib.hid (HIC.out.next hb5)
  have HB5 := Lib.hid (HB12.out.trans (hb5.mono (by omega)))
  have hz5 := hb5.size
  have HBS := Lib.hid hbs
  clear hbk hb5 HIC HB12 HMEM hbs
  dsimp only
  gi_wp2_with fail
  have hb6 : ∀ r, Below w5.heap.size w5 ((w5.alloc (.deferred (some []))).alloc (.loop r)) := fun r => ((Below.refl _ _).alloc (Nat.le_refl _) _).alloc (by simp) _
  refine wpIn_rangeQ (F := Fence.wide) rfl (by omega) (gf := 34) (lb := #[.pointer (some ⟨bs, 0, none⟩)]) rfl trivial (enters_of Tryd.func34 (by kernel_rfl) rfl)
    (each_seq (B := fun g => g ≠ w.heap.size + 1) (a := nd.at w.heap.size 0 ks) (by rw [HER.out]; exact hz) bs _) (fun _ => rfl) (fun W r o h hl => KpT.put h hl o)
    (fun pre W => IC W (w.heap.size + 1) (List.length pre : Nat) ∧ Below w.heap.size w W) (fun _ _ _ => False) ?hI (fun _ _ _ _ _ h _ => h) ?hK0 ?h0 ?a1 ?assign ?body ?done ?stop
  case hI =>
    rintro pre W r o ⟨h1, h2⟩ hlr
    exact ⟨h1.loop hlr o, below_put h2 (by omega) o⟩
  case hK0 =>
    intro r
    exact HKP.out.kept (fun k _ hl => (hb6 r).block k hl)
  case h0 =>
    intro r
    exact ⟨HIC5.out.next (hb6 r), HB5.out.trans ((hb6 r).mono (by omega))⟩
  case assign =>
    intro l' x W K hK
    simp only [encF]
    gi_wp2
    exact hK
  case stop => rintro D c pre W _ h; exact h.elim
  case body =>
    rintro l' pre x W ⟨hic, hbw⟩ hkp ⟨r, hlr⟩ hD hlen hsp
    have HL0 := Lib.hid hlr
    have HD0 := Lib.hid hD
    have HKW := Lib.hid hkp
    have HIW := Lib.hid hic
    have HBW := Lib.hid hbw
    have HSP := Lib.hid hsp
    have hc0 := hic.c
    have hf0 := hic.f
    have hpl : pre.length ≤ 1000000000 := by
      have h1 := flat_len 0 (nd.at w.heap.size 0 ks)
      rw [HER.out] at h1
      have := hsp.length_le
      simp at this
      omega
    clear hlr hD hkp hic hbw hsp
    gi_wp2_with fail
    refine ⟨two_set (by omega) (by omega) _, HKW.out.kept (fun k hk hl => Below.heap_setCell W ⟨w.heap.size + 1, 0, none⟩ _ k (by have := HBS.out; rcases hk with rfl | hk; exact (by show _ ≠ w.heap.size + 1; omega); exact hk)), ?_, HBW.out.setCell (p := ⟨w.heap.size + 1, 0, none⟩) (by show w.heap.size ≤ w.heap.size + 1; omega) _⟩
    have := HIW.out.set ((pre.length : Int) + 1)
    rw [List.length_append, List.length_singleton]
    simpa using this
  case done =>
    rintro D xs W rfl ⟨hic, hbw⟩ hkp rfl hD
    have hc0 := hic.c
    have HD := Lib.hid hD
    have HIC6 := Lib.hid hic
    have HBW := Lib.hid hbw
    clear hD hic hbw hkp
    gi_wp2_with fail
    have hbf : Below w.heap.size w (W.putObj w5.heap.size (.deferred none)) := below_put HBW.out (by omega) _
    refine ⟨by simp, .inl ⟨_, _, rfl, run_takeDeferred HD.out, ?_⟩⟩
    refine ⟨.int .i64 ((nd.t ks).size : Int), ?_, rfl, hbf⟩
    have hq : nd.t ks = nd.t ks ∧ ((flat 0 (nd.at w.heap.size 0 ks)).length : Int) = ((nd.t ks).size : Int) := ⟨rfl, by rw [flat_len, HER.out]⟩
    simp [results, Tryd.results17, go_sem, hq]
theorem deep_mem {x : Fe} : ∀ {l : List Fe}, x ∈ l → x.deep + 1 ≤ deepF l
  | y :: l, h => by
    rw [deepF]
    rcases List.mem_cons.1 h with rfl | h
    · omega
    · have := deep_mem h; omega
mutual
theorem depth_size : ∀ t : T, t.depth ≤ t.size
  | .mk _ _ _ ks => by rw [T.depth, T.size]; have := depthL_size ks; omega
theorem depthL_size : ∀ l : List T, depthL l ≤ sizeL l
  | [] => by rw [depthL]; omega
  | t :: l => by rw [depthL, sizeL]; have := depth_size t; have := depthL_size l; omega
end

set_option maxHeartbeats 4000000 in
set_option maxRecDepth 100000 in
theorem depth_any (nd : Nd) (ks : List AT) (B : Nat → Prop) (w : World) (h : TV w B nd ks) (hz : (nd.t ks).size ≤ 1000000000) :
    Calls Tryd.prog 18 #[nd.val] w fun e w' => e = .returned (.int .i64 ((nd.t ks).depth : Int)) ∧ Below w.heap.size w w' := by
  refine (callsIn_wide (n := 6)).1 ?_
  refine callsIn_of_wp_marks Tryd.func18 rfl trivial ?_ rfl
  simp only [Tryd.ntmps18, List.size_toArray, List.length_cons, List.length_nil, Nat.reduceAdd, Nat.reduceSub, Array.replicate_succ, Array.replicate_zero, List.push_toArray, List.append_toArray, List.nil_append, List.cons_append]
  have t1 : Fence.wide.fn 28 := trivial
  have hn0 := node_new w nd
  have hb1 : Below w.heap.size w (w.alloc (.cells #[.string nd.op, .string nd.tx, .int .i64 nd.pl, .slice nd.kp nd.kn nd.kc] 25)) := (Below.refl _ _).alloc (Nat.le_refl _) _
  have hz1 : (w.alloc (.cells #[.string nd.op, .string nd.tx, .int .i64 nd.pl, .slice nd.kp nd.kn nd.kc] 25)).heap.size = w.heap.size + 1 := by simp
  simp only [Nd.val] at *
  generalize hW1 : w.alloc (.cells #[.string nd.op, .string nd.tx, .int .i64 nd.pl, .slice nd.kp nd.kn nd.kc] 25) = W1 at *
  have hb2 : Below W1.heap.size W1 (W1.alloc (.cells #[.int .i64 0] 3)) := (Below.refl _ _).alloc (Nat.le_refl _) _
  have hz2 : (W1.alloc (.cells #[.int .i64 0] 3)).heap.size = w.heap.size + 2 := by simp [hz1]
  have hic := IC.new W1 0
  rw [hz1] at hic
  have hmem : Mem (W1.alloc (.cells #[.int .i64 0] 3)) (fun g => g ≠ w.heap.size + 1) (nd.at w.heap.size 0 ks) := by
    refine Mem.next ?_ hb2
    refine TV.at (h.kept (fun g _ hl => hb1.block g hl) (fun g _ hl => ?_)) ?_ hn0
    · show g ≠ w.heap.size + 1; omega
    · show w.heap.size ≠ w.heap.size + 1; omega
  have hb12 := hb1.trans (hb2.mono (by omega : w.heap.size ≤ W1.heap.size))
  have her : (er (nd.at w.heap.size 0 ks)) = nd.t ks := by simp [Nd.at, er, Nd.t]
  have HB12 := Lib.hid hb12
  have HIC := Lib.hid hic
  have HMEM := Lib.hid hmem
  have HER := Lib.hid her
  clear hb1 hb2 hn0 hic hmem her hb12 h
  gi_wp2_with fail
  try rw [hW1]
  try simp only [hz1]
  generalize W1.alloc (.cells #[.int .i64 0] 3) = W2 at *
  refine (callsIn_wide.2 (each_call w.heap.size 0 W2)).mono ?_
  rintro e w5 ⟨bs, rfl, hbs, hbk, hb5⟩
  have HKP : Hid (KpT (fun g => g ≠ w.heap.size + 1) bs (nd.at w.heap.size 0 ks) w5) := Lib.hid ⟨hbk, HMEM.out.next hb5⟩
  have HIC5 := Lib.hid (HIC.out.next hb5)
  have HB5 := Lib.hid (HB12.out.trans (hb5.mono (by omega)))
  have hz5 := hb5.size
  have HBS := Lib.hid hbs
  clear hbk hb5 HIC HB12 HMEM hbs
  dsimp only
  gi_wp2_with fail
  have hb6 : ∀ r, Below w5.heap.size w5 ((w5.alloc (.deferred (some []))).alloc (.loop r)) := fun r => ((Below.refl _ _).alloc (Nat.le_refl _) _).alloc (by simp) _
  refine wpIn_rangeQ (F := Fence.wide) rfl (by omega) (gf := 34) (lb := #[.pointer (some ⟨bs, 0, none⟩)]) rfl trivial (enters_of Tryd.func34 (by kernel_rfl) rfl)
    (each_seq (B := fun g => g ≠ w.heap.size + 1) (a := nd.at w.heap.size 0 ks) (by rw [HER.out]; exact hz) bs _) (fun _ => rfl) (fun W r o h hl => KpT.put h hl o)
    (fun pre W => IC W (w.heap.size + 1) (deepF pre : Nat) ∧ Below w.heap.size w W) (fun _ _ _ => False) ?hI (fun _ _ _ _ _ h _ => h) ?hK0 ?h0 ?a1 ?assign ?body ?done ?stop
  case hI =>
    rintro pre W r o ⟨h1, h2⟩ hlr
    exact ⟨h1.loop hlr o, below_put h2 (by omega) o⟩
  case hK0 =>
    intro r
    exact HKP.out.kept (fun k _ hl => (hb6 r).block k hl)
  case h0 =>
    intro r
    exact ⟨HIC5.out.next (hb6 r), HB5.out.trans ((hb6 r).mono (by omega))⟩
  case assign =>
    intro l' x W K hK
    simp only [encF]
    gi_wp2
    exact hK
  case stop => rintro D c pre W _ h; exact h.elim
  case body =>
    rintro l' pre x W ⟨hic, hbw⟩ hkp ⟨r, hlr⟩ hD hlen hsp
    have HL0 := Lib.hid hlr
    have HD0 := Lib.hid hD
    have HKW := Lib.hid hkp
    have HIW := Lib.hid hic
    have HBW := Lib.hid hbw
    have HSP := Lib.hid hsp
    have hc0 := hic.c
    have hf0 := hic.f
    have hdx : x.deep ≤ 1000000000 := by
      have h1 := flat_deep 0 (nd.at w.heap.size 0 ks)
      have h2 := deep_mem (hsp.subset (by simp : x ∈ pre ++ [x]))
      have h3 := depth_size (nd.t ks)
      rw [HER.out] at h1
      omega
    clear hlr hD hkp hic hbw hsp
    gi_wp2_with fail
    refine ⟨two_set (by omega) (by omega) _, HKW.out.kept (fun k hk hl => Below.heap_setCell W ⟨w.heap.size + 1, 0, none⟩ _ k (by have := HBS.out; rcases hk with rfl | hk; exact (by show _ ≠ w.heap.size + 1; omega); exact hk)), ?_, HBW.out.setCell (p := ⟨w.heap.size + 1, 0, none⟩) (by show w.heap.size ≤ w.heap.size + 1; omega) _⟩
    have := HIW.out.set (max (deepF pre : Int) ((x.deep : Int) + 1))
    rw [deepF_append]
    have e : ((max (deepF pre) (deepF [x]) : Nat) : Int) = max (deepF pre : Int) ((x.deep : Int) + 1) := by simp only [deepF]; omega
    rw [e]
    simpa using this
  case done =>
    rintro D xs W rfl ⟨hic, hbw⟩ hkp rfl hD
    have hc0 := hic.c
    have HD := Lib.hid hD
    have HIC6 := Lib.hid hic
    have HBW := Lib.hid hbw
    clear hD hic hbw hkp
    gi_wp2_with fail
    have hbf : Below w.heap.size w (W.putObj w5.heap.size (.deferred none)) := below_put HBW.out (by omega) _
    refine ⟨by simp, .inl ⟨_, _, rfl, run_takeDeferred HD.out, ?_⟩⟩
    refine ⟨.int .i64 ((nd.t ks).depth : Int), ?_, rfl, hbf⟩
    have hq : nd.t ks = nd.t ks ∧ ((deepF (flat 0 (nd.at w.heap.size 0 ks)) : Nat) : Int) = ((nd.t ks).depth : Int) := ⟨rfl, by rw [flat_deep, HER.out]; simp⟩
    simp [results, Tryd.results18, go_sem, hq]
end Go.Proofs.YtgahamppfdhnaaaDoor
