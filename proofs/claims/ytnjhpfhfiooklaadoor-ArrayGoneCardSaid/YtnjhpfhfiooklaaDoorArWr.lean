/-
  CONTRACT of layer 8's Write, of an array of no keys.
-/
import Derived.Test.YtnjhpfhfiooklaaDoorArW8
import Derived.Test.YtnjhpfhfiooklaaDoorArEach
namespace Go.Proofs.YtnjhpfhfiooklaaDoor
open Go.RowKit Go.Maps

attribute [local go_sem] Oper.semAt_some
theorem Wr.same {A B : World} {C : Nat → Prop} {b M : Nat} {v : Value} {l : List UInt8} (h : WrV A b M v l) (hs : Same C A B) (hb : C b) (hv : ∀ g, v.ownBlock = some g → C g) : WrV B b M v l :=
  ⟨(hs.cell (p := ⟨b, 0, none⟩) hb).trans h.1, (hs.frozen (p := ⟨b, 0, none⟩) hb).trans h.2.1, own_keptA h.2.2.1 (fun g hg => hs.block g (hv g hg)), h.2.2.2.1, Nat.le_trans h.2.2.2.2 hs.size⟩
theorem AV.wfr {w w' : World} {b wb B : Nat} {mm : Option Nat} (h : AV w b mm []) (hf : WFr wb B w w') (hn : ¬ Own b mm [] wb) : AV w' b mm [] := by
  refine h.kept fun k hk => ?_
  rcases hk with rfl | hk | ⟨e, he, _⟩
  · exact (hf.others _ _ h.blk (by intro e; injection e with e; exact hn (.inl e.symm)) (fun c fz e => by injection e with e1 e2 e3; cases e2)).trans h.blk.symm
  · subst hk
    obtain ⟨D, h1, _⟩ := h.map
    obtain ⟨es, ck, h2⟩ := ownsMap_block h1
    exact (hf.others _ _ h2 (by intro e; injection e with e; exact hn (.inr (.inl (by rw [e])))) (fun c fz e => by cases e)).trans h2.symm
  · cases he
set_option maxHeartbeats 4000000 in
set_option maxRecDepth 100000 in
theorem awrite_nil {w : World} {b : Nat} {mm : Option Nat} (h : AV w b mm []) {B0 wb B : Nat} {l : List UInt8} (hw : Wr w wb B l) (hl : l.length ≤ 1000000) (hwb : ¬ Own b mm [] wb) (hB0 : B0 ≤ wb) :
    Calls Tryd.prog 23 #[.pointer (some ⟨b, 0, none⟩), .pointer (some ⟨wb, 0, none⟩)] w fun e w' => e = .returned (.tuple #[]) ∧ Wr w' wb B (l ++ [40, 41]) ∧ Below B0 w w' := by
  have HA := Lib.hid h
  have HW := Lib.hid hw
  clear h hw
  refine (callsIn_wide (n := 6)).1 ?_
  refine callsIn_of_wp_marks Tryd.func23 rfl trivial ?_ rfl
  simp only [Tryd.ntmps23, List.size_toArray, List.length_cons, List.length_nil, Nat.reduceAdd, Nat.reduceSub, Array.replicate_succ, Array.replicate_zero, List.push_toArray, List.append_toArray, List.nil_append, List.cons_append]
  have t2 : Fence.wide.fn 41 := trivial
  gi_wp2_with fail
  have hbx : (w.alloc (.cells #[.pointer (some ⟨wb, 0, none⟩)] 55)).cell? ⟨w.heap.size, 0, none⟩ = some (.pointer (some ⟨wb, 0, none⟩)) := by simp [go_sem]
  have hbk : (w.alloc (.cells #[.pointer (some ⟨wb, 0, none⟩)] 55)).heap[w.heap.size]? = some (.cells #[.pointer (some ⟨wb, 0, none⟩)] 55 (0, 0)) := heap_new _ _
  have hba : Below w.heap.size w (w.alloc (.cells #[.pointer (some ⟨wb, 0, none⟩)] 55)) := (Below.refl _ _).alloc (Nat.le_refl _) _
  have hzz : (w.alloc (.cells #[.pointer (some ⟨wb, 0, none⟩)] 55)).heap.size = w.heap.size + 1 := by simp
  have HW1 := Lib.hid (HW.out.kept hba)
  have HA1 := Lib.hid (HA.out.next hba)
  have HB1 := Lib.hid hba
  generalize w.alloc (.cells #[.pointer (some ⟨wb, 0, none⟩)] 55) = W1 at *
  clear hba
  refine ⟨trivial, (callsIn_wide.2 (wopen_any wb B l W1 HW1.out (by omega))).mono ?_⟩
  rintro e w2 ⟨rfl, hw2, hf2⟩
  have hle := HW.out.le
  have hz12 : w.heap.size + 1 ≤ w2.heap.size := by have := hf2.size; omega
  have hbx2 : w2.cell? ⟨w.heap.size, 0, none⟩ = some (.pointer (some ⟨wb, 0, none⟩)) := (World.cell?_of_block (w := W1) (a := ⟨w.heap.size, 0, none⟩) ((hf2.others _ _ hbk (by intro e; injection e with e; omega) (fun c fz e => by injection e with e1 e2 e3; cases e2)).trans hbk.symm)).trans hbx
  have HX2 := Lib.hid hbx2
  clear hbx2 hbx hbk
  have HB2 : Hid (WFr wb B w w2) := Lib.hid ((WFr.ofBelow HB1.out HW.out.le.2).trans hf2)
  have HA2 := Lib.hid (HA1.out.wfr hf2 hwb)
  have HW2 := Lib.hid hw2
  clear hw2 hf2
  gi_wp2_with fail
  refine (callsIn_wide.2 (each_call b _)).mono ?_
  rintro e w5 ⟨bs, rfl, hbs0, hbs1, hb5⟩
  have hbs5 : bs < w5.heap.size := World.block_lt_of_cell? _ _ hbs1
  have hz2 := HB2.out.size
  have HA5 := Lib.hid (HA2.out.next hb5)
  have hbx5 := (hb5.cell (p := ⟨w.heap.size, 0, none⟩) (by show w.heap.size < w2.heap.size; omega)).trans HX2.out
  obtain ⟨v, hv2⟩ := HW2.out
  obtain ⟨v', hv5⟩ := HW2.out.kept hb5
  have hvv : v' = v := by
    have h1 := (hb5.cell (p := ⟨wb, 0, none⟩) (by show wb < w2.heap.size; omega)).trans hv2.1
    have h2 := hv5.1
    rw [h1] at h2
    exact (Option.some.inj h2).symm
  subst hvv
  have hrow : ∀ g, v'.ownBlock = some g → B ≤ g ∧ g < w2.heap.size := fun g hg => hv2.2.2.1.lt g hg
  have hknd : ∀ g, v'.ownBlock = some g → ¬ Own b mm [] g := fun g hg ho => by
    obtain ⟨_, c, fz, hk⟩ := ownsRow_kind hv5.2.2.1 g hg
    rcases ho with rfl | ho | ⟨e, he, _⟩
    · rw [HA5.out.blk] at hk
      injection hk with hk
      injection hk with _ hk
      cases hk
    · subst ho
      obtain ⟨D, h1, _⟩ := HA5.out.map
      obtain ⟨es, ck, h2⟩ := ownsMap_block h1
      rw [h2] at hk
      cases hk
    · cases he
  have HR := Lib.hid (And.intro hrow hknd)
  have HOW := Lib.hid fun k (hk : Own b mm [] k) => HA.out.own_lt hk
  have HV5 := Lib.hid hv5
  have HB5 := Lib.hid hb5
  clear hv2 hv5 hrow hknd hb5
  gi_wp2_with fail
  refine wpIn_rangeC (F := Fence.wide) rfl (by omega) (gf := 57) (lb := #[.pointer (some ⟨bs, 0, none⟩)]) rfl trivial (enters_of Tryd.func57 (by kernel_rfl) rfl)
    (each_seq bs _ (by omega) w5 hbs1 HA5.out) (Below.refl _ _) (fun _ => rfl) (fun k => k = wb ∨ v'.ownBlock = some k ∨ k = w.heap.size) (fun k hk hc => by
      rcases hc with rfl | hc | rfl
      · rcases hk with rfl | hk
        · omega
        · exact hwb hk
      · rcases hk with rfl | hk
        · have := (HR.out.1 _ hc).2; omega
        · exact HR.out.2 _ hc hk
      · rcases hk with rfl | hk
        · omega
        · have := HOW.out _ hk; omega) (fun k hk => by
      rcases hk with rfl | hk
      · exact hbs5
      · exact HA5.out.own_lt hk) (fun k hc => by
      have := HB5.out.size
      rcases hc with rfl | hc | rfl
      · omega
      · have := (HR.out.1 _ hc).2; omega
      · omega)
    (fun (_ : List En) C W => WrV W wb B v' (l ++ [40]) ∧ W.cell? ⟨w.heap.size, 0, none⟩ = some (.pointer (some ⟨wb, 0, none⟩)) ∧ (C wb ∧ (∀ g, v'.ownBlock = some g → C g) ∧ C w.heap.size)) (fun _ _ _ _ => False) (fun pre C A B' h hs => ⟨Wr.same h.1 hs h.2.2.1 h.2.2.2.1, (hs.cell (p := ⟨w.heap.size, 0, none⟩) h.2.2.2.2).trans h.2.1, h.2.2⟩) (fun _ _ _ _ _ h _ => h) ⟨HV5.out, hbx5, .inl rfl, fun g hg => .inr (.inl hg), .inr (.inr rfl)⟩ ?a1 ?assign ?body ?done ?stop
  case assign =>
    intro l' x W K hK
    gi_wp2
    exact hK
  case stop => rintro D c pre C W _ h; exact h.elim
  case body =>
    rintro l' pre x C W _ hcm hf hlen2 hsp
    have hx := hsp.subset (show x ∈ pre ++ [x] by simp)
    cases hx
  case done =>
    rintro D xs C6 w6 rfl ⟨hv6, hx6, hC6⟩ hcm hf6 rfl hD6 hsz6
    have hz5 := HB5.out.size
    have HB6 : Hid (Below B0 w w6) := Lib.hid (((HB2.out.below hle.1).mono hB0).trans ((HB5.out.mono (by omega)).trans (hcm.below (n := B0) (by omega) (fun k h => by
      rcases h with rfl | h | rfl
      · omega
      · have := (HR.out.1 _ h).1; omega
      · omega))))
    have HV6 : Hid (Wr w6 wb B (l ++ [40])) := Lib.hid ⟨_, hv6⟩
    have HD6 := Lib.hid hD6
    clear hv6 hC6 hcm hf6 hD6 hsz6
    gi_wp2_with fail
    refine ⟨trivial, (callsIn_wide.2 (wclose_any wb B _ w6 HV6.out (by simp; omega))).mono ?_⟩
    rintro e w7 ⟨rfl, hw7, hf7⟩
    have HD7 : Hid (w7.heap[w5.heap.size]? = some (.deferred (some []))) := Lib.hid (hf7.others _ _ HD6.out (by intro e; injection e with e; omega) (fun c fz e => by cases e))
    have HB7 := Lib.hid (HB6.out.trans ((hf7.below hle.1).mono hB0))
    have HW7 := Lib.hid hw7
    clear hw7 hf7 HB6 HV6 HD6
    gi_wp2
    have hz7 : w5.heap.size < w7.heap.size := block_lt HD7.out
    have hW : Wr (w7.putObj w5.heap.size (.deferred none)) wb B (l ++ [40, 41]) := by
      obtain ⟨v, h1, h2, h3, h4, h5⟩ := HW7.out
      have hne : wb ≠ w5.heap.size := by omega
      have hs : Same (fun k => k ≠ w5.heap.size) w7 (w7.putObj w5.heap.size (.deferred none)) := same_put w7 _ _ (fun h => h rfl)
      have h6 : WrV w7 wb B v (l ++ [40] ++ [41]) := ⟨h1, h2, h3, h4, h5⟩
      have h7 := Wr.same h6 hs hne (fun g hg he => by
        obtain ⟨_, c, fz, hk⟩ := ownsRow_kind h3 g hg
        subst he
        rw [HD7.out] at hk
        cases hk)
      rw [List.append_assoc] at h7
      exact ⟨v, h7⟩
    have bf : Below B0 w (w7.putObj w5.heap.size (.deferred none)) := ⟨HB7.out.os, HB7.out.tape, HB7.out.output, by rw [World.putObj_size]; exact HB7.out.size, fun k hk => (World.putObj_heap_other (by omega)).trans (HB7.out.block k hk)⟩
    refine ⟨by simp, .inl ⟨_, _, rfl, run_takeDeferred HD7.out, ?_⟩⟩
    refine ⟨.tuple #[], ?_, ⟨rfl, hW, bf⟩⟩
    simp [results, Tryd.results23, go_sem]
end Go.Proofs.YtnjhpfhfiooklaaDoor
