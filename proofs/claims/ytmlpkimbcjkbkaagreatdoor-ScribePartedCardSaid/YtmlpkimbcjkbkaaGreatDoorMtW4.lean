/-
  THE BUILDER of layer 10 in memory; a piece as a value.
-/
import Derived.OrdersHeld
import Derived.OrdersIn
import Derived.OwnWalkIn
import Derived.Deep.RegionHeld
import Derived.Test.YtmlpkimbcjkbkaaGreatDoorMtW2
namespace Go.Proofs.YtmlpkimbcjkbkaaGreatDoor
open Go

def noDefer (ops : Array Oper) : Bool := ops.all fun o => match o.op with | .defer _ => false | _ => true
theorem noDefer_spec {ops : Array Oper} (h : noDefer ops = true) (j : Nat) (o : Oper) (ho : ops[j]? = some o) (c : Call) : o.op ≠ .defer c := fun e => by
  have := Array.all_eq_true_iff_forall_mem.1 h o (Array.mem_of_getElem? ho)
  rw [e] at this
  cases this
section
variable {F : Fence} {n : Nat} {P : Program} {ops : Array Oper} {Q : Exit → Act → World → Prop} {md : Region.Mode} {S : World → Prop}

def wpAnyI (F : Fence) (n : Nat) (P : Program) (md : Region.Mode) (ops : Array Oper) (Q : Exit → Act → World → Prop) (S : World → Prop) : Nat → Array Bool → Act → World → Prop
  | 0, listed, a, w => Region.ready md ops listed = [] ∧ Q .normal a w
  | fuel + 1, listed, a, w =>
    (Region.ready md ops listed = [] → Q .normal a w) ∧
    ∀ i ∈ Region.ready md ops listed, wpOpIn F n P ops Q i (fun a' w' => S w' ∧ wpAnyI F n P md ops Q S fuel (listed.setIfInBounds i true) a' w') a w
theorem wpAnyIn_of_I : ∀ (fuel : Nat) (listed : Array Bool) (a : Act) (w : World), wpAnyI F n P md ops Q S fuel listed a w → wpAnyIn F n P md ops Q fuel listed a w
  | 0, _, _, _, h => h
  | fuel + 1, _, _, _, h => ⟨h.1, fun i hi => wpOpIn_mono (fun a' w' h' => wpAnyIn_of_I fuel _ a' w' h'.2) (h.2 i hi)⟩
def YIn (P : Program) (ops : Array Oper) (S : World → Prop) (o : Oper) (v : Value) (a : Act) : Prop := YieldsIf P ops S o v a ∧ ∀ w, o.about P w a.eval = none
theorem YIn.wpOpIn {i : Nat} {o : Oper} {v : Value} {a : Act} (hnd : ∀ c, o.op ≠ .defer c) (hi : ops[i]? = some o) (hy : YIn P ops S o v a)
    {K : Act → World → Prop} {w : World} (hS : S w) (h : K (a.put o.dst v) w) : wpOpIn F n P ops Q i K a w := by
  unfold Go.wpOpIn
  simp only [hi]
  have hab : ∀ f, o.about P w a.eval = some f → F.fn f := fun f hf => by rw [hy.2 w] at hf; cases hf
  rcases hy.1 with ⟨hw, hv⟩ | ⟨hw, rfl⟩
  · simp only [hw, if_true, Oper.wpIn, Oper.semAt_plain F _ _ hnd, hv w hS, Oper.uponIn]; exact ⟨hab, h⟩
  · simp only [hw, Bool.false_eq_true, if_false]; exact ⟨hab, h⟩
theorem YIn.of_same {o : Oper} {v : Value} {a a' : Act} (hy : YIn P ops S o v a) (he : execOp a'.eval o = execOp a.eval o)
    (hw : Region.wanted o (yielded ops a'.tmps) = Region.wanted o (yielded ops a.tmps)) (hb : ∀ w, o.about P w a'.eval = o.about P w a.eval) : YIn P ops S o v a' :=
  ⟨hy.1.of_same he hw, fun w => by rw [hb w]; exact hy.2 w⟩
theorem wpOpIn_putI {j : Nat} {oi oj : Oper} {v : Value} (hnd : ∀ c, oj.op ≠ .defer c) (hj : ops[j]? = some oj) (hap : oi.apart ops oj = true)
    (hsi : ∀ cs b, oi.op ≠ .select cs b) (hsj : ∀ cs b, oj.op ≠ .select cs b)
    (hQ : ∀ c a w, Q (.panic c) (a.put oi.dst v) w → Q (.panic c) a w) {K : Act → World → Prop} {a : Act} {w : World}
    (hy : YIn P ops S oi v a) (h : wpOpIn F n P ops Q j K (a.put oi.dst v) w) :
    wpOpIn F n P ops Q j (fun a' w' => YIn P ops S oi v a' ∧ K (a'.put oi.dst v) w') a w := by
  obtain ⟨h1, h2, h3⟩ := Oper.apart_spec hap
  have keep : ∀ (a : Act), YIn P ops S oi v a → ∀ u, YIn P ops S oi v (a.put oj.dst u) := fun a hy u =>
    hy.of_same (execOp_put oi hsi a oj.dst u h3) (wanted_put oi a oj.dst u h3) (fun w => about_put oi w a oj.dst u h3)
  have keepD : ∀ d, YIn P ops S oi v { a with defers := d :: a.defers } := fun d => hy.of_same rfl rfl (fun _ => rfl)
  unfold wpOpIn at *
  simp only [hj] at *
  rw [wanted_put oj a oi.dst v h1, about_put oj w a oi.dst v h1] at h
  split
  · rename_i hw
    simp only [hw, if_true] at h
    unfold Oper.wpIn at *
    rw [about_put oj w a oi.dst v h1] at h
    refine ⟨h.1, ?_⟩
    have h := h.2
    rw [Oper.semAt_plain F _ _ hnd, execOp_put oj hsj a oi.dst v h1] at h
    rw [Oper.semAt_plain F _ _ hnd]
    generalize (execOp a.eval oj).run P w = r at *
    cases r with
    | ok x w' =>
      cases x <;> simp only [Oper.uponIn] at h ⊢
      case value u => exact ⟨keep a hy u, by rw [← Act.put_comm a v u h2]; exact h⟩
      case skip => exact ⟨keep a hy _, by rw [← Act.put_comm a v undef h2]; exact h⟩
      case defer d =>
        refine ⟨keep _ (keepD d) _, ?_⟩
        rw [← Act.put_comm _ v undef h2, ← Act.put_defers]
        exact h
      case enter f args =>
        refine ⟨h.1, CallsIn.mono h.2 fun e w'' he => ?_⟩
        cases e with
        | returned u => exact ⟨keep a hy u, by rw [← Act.put_comm a v u h2]; exact he⟩
        | panicked c => exact hQ _ _ _ he
        | outgrown => exact he
      case row row args => exact ⟨h.1, RowsIn.mono h.2 fun u w'' he => ⟨keep a hy u, by rw [← Act.put_comm a v u h2]; exact he⟩⟩
      case round l f tmps assign body =>
        refine ⟨h.1, RoundIn.mono h.2 fun e w'' he => ?_⟩
        cases e with
        | returned u => exact ⟨keep a hy u, by rw [← Act.put_comm a v u h2]; exact he⟩
        | panicked c => exact hQ _ _ _ he
        | outgrown => exact he
    | halt x w' =>
      cases x <;> simp only [Oper.uponIn] at h ⊢
      case panic u => exact hQ _ _ _ h
  · rename_i hw
    simp only [hw] at h
    exact ⟨h.1, keep a hy _, by rw [← Act.put_comm a v undef h2]; exact h.2⟩
theorem wpAnyI_first {i : Nat} {oi : Oper} {v : Value} (hnd : ∀ (j : Nat) (o : Oper), ops[j]? = some o → ∀ c, o.op ≠ .defer c) (hi : ops[i]? = some oi) (hsel : ∀ (j : Nat) (o : Oper) cs b, ops[j]? = some o → o.op ≠ .select cs b)
    (hQ : ∀ c a w, Q (.panic c) (a.put oi.dst v) w → Q (.panic c) a w) :
    ∀ (fuel : Nat) (listed : Array Bool) (a : Act) (w : World),
      (∀ j oj, ops[j]? = some oj → j ≠ i → listed.getD j true = false → (∀ e ∈ oj.after, Region.binds md e = true → e.on ≠ i) → oi.apart ops oj = true) →
      i ∈ Region.ready md ops listed → YIn P ops S oi v a → S w →
      wpAnyI F n P md ops Q S fuel (listed.setIfInBounds i true) (a.put oi.dst v) w → wpAnyI F n P md ops Q S (fuel + 1) listed a w := by
  intro fuel
  induction fuel with
  | zero =>
    intro listed a w _ hr hy hS H
    refine ⟨fun h => (by rw [h] at hr; cases hr), fun j hj => ?_⟩
    by_cases hji : j = i
    · subst hji; exact hy.wpOpIn (hnd _ _ hi) hi hS ⟨hS, H⟩
    · have := ready_mono hj hji
      rw [H.1] at this
      cases this
  | succ fuel ih =>
    intro listed a w hfree hr hy hS H
    refine ⟨fun h => (by rw [h] at hr; cases hr), fun j hj => ?_⟩
    by_cases hji : j = i
    · subst hji; exact hy.wpOpIn (hnd _ _ hi) hi hS ⟨hS, H⟩
    · have h1 := H.2 j (ready_mono hj hji)
      obtain ⟨hjun, oj, hoj, hall⟩ := mem_ready.1 hj
      have hnot : ∀ e ∈ oj.after, Region.binds md e = true → e.on ≠ i := fun e he hb heq => by
        have h1 := hall e he hb
        have h0 := (mem_ready.1 hr).1
        rw [heq] at h1
        rcases Nat.lt_or_ge i listed.size with h' | h'
        · simp [h'] at h0 h1; rw [h0] at h1; cases h1
        · simp [Array.getElem?_eq_none h'] at h1
      have h2 := wpOpIn_putI (hnd _ _ hoj) hoj (hfree j oj hoj hji hjun hnot) (fun cs b => hsel i oi cs b hi) (fun cs b => hsel j oj cs b hoj) hQ hy h1
      have hfree' : ∀ k ok, ops[k]? = some ok → k ≠ i → (listed.setIfInBounds j true).getD k true = false →
          (∀ e ∈ ok.after, Region.binds md e = true → e.on ≠ i) → oi.apart ops ok = true := fun k ok hk hki hun hno => by
        refine hfree k ok hk hki ?_ hno
        by_cases hjk : j = k
        · subst hjk; exact hjun
        · rw [getD_set_ne true hjk] at hun; exact hun
      refine wpOpIn_mono (fun a' w' h3 => ⟨h3.2.1, ih (listed.setIfInBounds j true) a' w' hfree' (ready_mono hr (Ne.symm hji)) h3.1 h3.2.1 ?_⟩) h2
      rw [Array.setIfInBounds_comm _ _ hji]
      exact h3.2.2
/-- Take number i first. -/
theorem wpAnyI_take {i : Nat} {oi : Oper} {v : Value} {fuel : Nat} {listed : Array Bool} {a : Act} {w : World} (hnd : noDefer ops = true) (hi : ops[i]? = some oi)
    (hs : Region.noSelect ops = true) (hf : Region.free md ops listed i = true) (hr : (Region.ready md ops listed).contains i = true)
    (hQ : ∀ c a w, Q (.panic c) (a.put oi.dst v) w → Q (.panic c) a w) (hy : YieldsIf P ops S oi v a) (hab : ∀ w, oi.about P w a.eval = none) (hS : S w)
    (h : wpAnyI F n P md ops Q S fuel (listed.setIfInBounds i true) (a.put oi.dst v) w) : wpAnyI F n P md ops Q S (fuel + 1) listed a w :=
  wpAnyI_first (noDefer_spec hnd) hi (Region.noSelect_spec hs) hQ fuel listed a w (Region.free_spec hi hf) (by simpa using hr) ⟨hy, hab⟩ hS h
def AllReadyI (F : Fence) (n : Nat) (P : Program) (md : Region.Mode) (ops : Array Oper) (Q : Exit → Act → World → Prop) (S : World → Prop) (fuel : Nat) (listed : Array Bool) (a : Act) (w : World) (rs : List Nat) : Prop :=
  ∀ i ∈ rs, wpOpIn F n P ops Q i (fun a' w' => S w' ∧ wpAnyI F n P md ops Q S fuel (listed.setIfInBounds i true) a' w') a w
theorem AllReadyI.nil {fuel : Nat} {listed : Array Bool} {a : Act} {w : World} : AllReadyI F n P md ops Q S fuel listed a w [] := fun _ h => by cases h
/-- A call: S is shown anew. -/
theorem AllReadyI.cons {fuel : Nat} {listed : Array Bool} {a : Act} {w : World} {i : Nat} {o : Oper} {rs : List Nat} (ho : ops[i]? = some o)
    (h : ∀ K' : Act → World → Prop, Shut (∀ a w, S w → (S w → wpAnyI F n P md ops Q S fuel (listed.setIfInBounds i true) a w) → K' a w) → if Region.wanted o (yielded ops a.tmps) = true then Oper.wpIn F n P o a w K' Q else (∀ f, o.about P w a.eval = some f → F.fn f) ∧ K' (a.put o.dst undef) w)
    (hs : AllReadyI F n P md ops Q S fuel listed a w rs) : AllReadyI F n P md ops Q S fuel listed a w (i :: rs) := fun j hj => by
  rcases List.mem_cons.1 hj with rfl | hj
  · exact wpOpIn_step ho (fun K' hK => h K' (fun a w hS hW => hK a w ⟨hS, hW hS⟩))
  · exact hs j hj
theorem wpAnyI_ready {rs : List Nat} {fuel : Nat} {listed : Array Bool} {a : Act} {w : World} (hr : Region.ready md ops listed = rs) (hne : rs ≠ [])
    (h : AllReadyI F n P md ops Q S fuel listed a w rs) : wpAnyI F n P md ops Q S (fuel + 1) listed a w := ⟨fun h0 => absurd (hr ▸ h0) hne, hr ▸ h⟩
theorem wpAnyI_done {listed : Array Bool} {a : Act} {w : World} (hr : Region.ready md ops listed = []) (h : Q .normal a w) : ∀ fuel, wpAnyI F n P md ops Q S fuel listed a w
  | 0 => ⟨hr, h⟩
  | _ + 1 => ⟨fun _ => h, by rw [hr]; simp⟩
/-- The beginning. -/
theorem wpIn_region_I {id : Nat} {a : Act} {w : World} (hm : P.follows .mixedOrders = true) (hS : S w.drew)
    (h : S w.drew → wpAnyI F n P .any ops Q S ops.size (Array.replicate ops.size false) a w.drew) : (Code.region id ops true).wpIn F n P Q a w :=
  wpIn_region_any hm (wpAnyIn_of_I _ _ _ _ (h hS))
end
end Go.Proofs.YtmlpkimbcjkbkaaGreatDoor

namespace Go.Proofs.YtmlpkimbcjkbkaaGreatDoor
open Go.RowKit
attribute [local go_sem] Oper.semAt_some

/-- The loop's own two blocks stand where block g isn't one of them. -/
theorem onl_two {g D : Nat} {W W' : World} (h : Onl g W W') (h1 : D ≠ g) (h2 : D + 1 ≠ g) (hd : D + 1 < W.heap.size) : Two D W W' :=
  ⟨h.block D (by omega) h1, h.block (D + 1) hd h2⟩
theorem onl_put {g k : Nat} {u w : World} (h : Onl g u w) (hk : u.heap.size ≤ k) (o : Obj) : Onl g u (w.putObj k o) :=
  ⟨h.os, h.tape, h.output, by rw [World.putObj_size]; exact h.size, fun j hj hn => (World.putObj_heap_other (by omega)).trans (h.block j hj hn)⟩
theorem Tb.loop {w : World} {g R m k : Nat} {P : Nat → Nat → Prop} {r : Loop} (h : Tb w g R m P) (hl : w.heap[k]? = some (.loop r)) (o : Obj) : Tb (w.putObj k o) g R m P :=
  h.kept (World.putObj_heap_other fun e => by subst e; unfold Tb at h; rw [hl] at h; cases h)
theorem drew_below (w : World) : Below w.heap.size w w.drew := ⟨rfl, rfl, rfl, Nat.le_refl _, fun _ _ => rfl⟩
set_option maxHeartbeats 4000000 in
set_option maxRecDepth 100000 in
theorem mrows_any {w : World} {g g2 g3 R R2 m i o o3 : Nat} {P Q : Nat → Nat → Prop} {S : Nat → Prop} (h : Tb w g R m P) (hi : i < R) (ho : 0 < m → o = i * m)
    (h2 : Tb w g2 R2 m Q) (hne2 : g ≠ g2) (hR2 : R2 * m ≤ 1000000000) (hR2b : R2 ≤ 1000000000) (hdz : Dz w) (hm : m ≤ 10000000) (hS2 : ∀ x, x < 64 * m → S x → x < R2)
    (hS : ∀ W P', Tb W g R m P' → (∀ r x, r ≠ i → (P' r x ↔ P r x)) → (∀ k, k ≠ g → k < w.heap.size → W.heap[k]? = w.heap[k]?) → Rw W g3 o3 m S) (c c3 : Nat) :
    Calls Tryz.prog 43 #[.slice (some ⟨g, o, none⟩) m c, tbV g2 R2 m, .slice (some ⟨g3, o3, none⟩) m c3] w fun e w' => e = .returned (.tuple #[]) ∧ Tb w' g R m (fun r x => P r x ∨ (r = i ∧ ∃ y, y < 64 * m ∧ S y ∧ Q y x)) ∧ Onl g w w' := by
  refine (callsIn_wide (n := 6)).1 ?_
  refine callsIn_of_wp_marks Tryz.func43 rfl trivial ?_ rfl
  simp only [Tryz.ntmps43, List.size_toArray, List.length_cons, List.length_nil, Nat.reduceAdd, Nat.reduceSub, Array.replicate_succ, Array.replicate_zero, List.push_toArray, List.append_toArray, List.nil_append, List.cons_append]
  have hgd := h.ne_dz hdz
  have hgl := h.lt
  have hg2l := h2.lt
  unfold tbV
  have HS := Lib.hid hS
  have HS2 := Lib.hid hS2
  have H1 := Lib.hid h
  have H2 := Lib.hid h2
  have HZ := Lib.hid hdz
  have HOO := Lib.hid ho
  have hbA : Below w.heap.size w ((w.alloc (.cells #[.slice (some ⟨g, o, none⟩) m c] 95)).alloc (.cells #[.int .i64 (m : Int), .slice (some ⟨g2, 0, none⟩) (R2 * m) (R2 * m)] 52)) := ((Below.refl _ _).alloc (Nat.le_refl _) _).alloc (by simp) _
  have hzA : ((w.alloc (.cells #[.slice (some ⟨g, o, none⟩) m c] 95)).alloc (.cells #[.int .i64 (m : Int), .slice (some ⟨g2, 0, none⟩) (R2 * m) (R2 * m)] 52)).heap.size = w.heap.size + 2 := by simp
  have hlA : ((w.alloc (.cells #[.slice (some ⟨g, o, none⟩) m c] 95)).alloc (.cells #[.int .i64 (m : Int), .slice (some ⟨g2, 0, none⟩) (R2 * m) (R2 * m)] 52)).heap[w.heap.size]? = some (.cells #[.slice (some ⟨g, o, none⟩) m c] 95 (0, 0)) := (Below.heap_alloc _ _ _ (by simp)).trans (mt_heap_new _ _)
  have htA : ((w.alloc (.cells #[.slice (some ⟨g, o, none⟩) m c] 95)).alloc (.cells #[.int .i64 (m : Int), .slice (some ⟨g2, 0, none⟩) (R2 * m) (R2 * m)] 52)).heap[w.heap.size + 1]? = some (.cells #[.int .i64 (m : Int), .slice (some ⟨g2, 0, none⟩) (R2 * m) (R2 * m)] 52 (0, 0)) := by
    have := mt_heap_new (w.alloc (.cells #[.slice (some ⟨g, o, none⟩) m c] 95)) (.cells #[.int .i64 (m : Int), .slice (some ⟨g2, 0, none⟩) (R2 * m) (R2 * m)] 52)
    rwa [World.size_alloc] at this
  have HBA := Lib.hid hbA
  have HLA := Lib.hid hlA
  have HTA := Lib.hid htA
  clear h h2 hdz hS hS2 ho hbA hlA htA
  gi_wp2_with fail
  generalize ((w.alloc (.cells #[.slice (some ⟨g, o, none⟩) m c] 95)).alloc (.cells #[.int .i64 (m : Int), .slice (some ⟨g2, 0, none⟩) (R2 * m) (R2 * m)] 52)) = W1 at *
  refine ⟨trivial, (callsIn_wide.2 (all_call g3 o3 m c3 W1)).mono ?_⟩
  rintro e w5 ⟨bs, rfl, hbs, hbk, hb5⟩
  have HB5 : Hid (Below w.heap.size w w5) := Lib.hid (HBA.out.trans (hb5.mono (by omega)))
  have HL5 : Hid (w5.heap[w.heap.size]? = some (.cells #[.slice (some ⟨g, o, none⟩) m c] 95 (0, 0))) := Lib.hid ((hb5.block _ (by omega)).trans HLA.out)
  have HT5 : Hid (w5.heap[w.heap.size + 1]? = some (.cells #[.int .i64 (m : Int), .slice (some ⟨g2, 0, none⟩) (R2 * m) (R2 * m)] 52 (0, 0))) := Lib.hid ((hb5.block _ (by omega)).trans HTA.out)
  have hz5 := hb5.size
  have HBK := Lib.hid hbk
  have hbs1 : w.heap.size + 2 ≤ bs := by omega
  have hbsl : bs < w5.heap.size := (Array.getElem?_eq_some_iff.1 hbk).1
  clear hbk hb5 HBA HLA HTA hbs
  dsimp only
  gi_wp2_with fail
  have hb6 : ∀ r, Below w5.heap.size w5 ((w5.alloc (.deferred (some []))).alloc (.loop r)) := fun r => ((Below.refl _ _).alloc (Nat.le_refl _) _).alloc (by simp) _
  have HKOF : Hid (∀ W P', Tb W g R m P' → (∀ r x, r ≠ i → (P' r x ↔ P r x)) → Onl g w5 W → KpL bs g3 m o3 c3 S W) := Lib.hid fun W P' ht hp hon =>
    ⟨(hon.block bs hbsl (by omega)).trans HBK.out, HS.out W P' ht hp (fun k hk hl => (hon.block k (by omega) hk).trans (HB5.out.block k hl)), (HZ.out.kept (HB5.out.block _ HZ.out.lt)).kept (hon.block _ (by have := HZ.out.lt; omega) hgd.symm)⟩
  refine wpIn_rangeQ (F := Fence.wide) rfl (by omega) (gf := 97) (lb := #[.pointer (some ⟨bs, 0, none⟩)]) rfl trivial (enters_of Tryz.func97 (by kernel_rfl) rfl)
    (all_seq (g := g3) (o := o3) (m := m) (c := c3) (Q := S) hm bs _ (by omega)) (fun _ => rfl) (fun W r o h hl => KpL.put h hl o)
    (fun pre W => Tb W g R m (fun r x => P r x ∨ (r = i ∧ ∃ y, y ∈ pre ∧ Q y x)) ∧ Onl g w5 W) (fun _ _ _ => False) ?hI (fun _ _ _ _ _ h _ => h) ?hK0 ?h0 ?a1 ?assign ?body ?done ?stop
  case hI =>
    rintro pre W r o ⟨h1, h2⟩ hlr
    exact ⟨h1.loop hlr o, onl_put h2 (by omega) o⟩
  case hK0 =>
    intro r
    exact HKOF.out _ P ((H1.out.below HB5.out (by omega)).next (hb6 r)) (fun _ _ _ => Iff.rfl) (Onl.of_below (hb6 r) (Nat.le_refl _))
  case h0 =>
    intro r
    exact ⟨((H1.out.below HB5.out (by omega)).next (hb6 r)).congr (fun r x _ _ => by simp), Onl.of_below (hb6 r) (Nat.le_refl _)⟩
  case assign =>
    intro l' x W K hK
    simp only [encL]
    gi_wp2
    exact hK
  case stop => rintro D c pre W _ h; exact h.elim
  case body =>
    rintro l' pre x W ⟨ht, hon⟩ hkp ⟨r, hlr⟩ hD hlen hsp
    have hxm : x ∈ ups S (64 * m) := hsp.subset (by simp)
    have hx1 := (ups_mem _).1 hxm
    have hxR : x < R2 := HS2.out x hx1.1 hx1.2
    have HT := Lib.hid ht
    have HON := Lib.hid hon
    have HL0 := Lib.hid hlr
    have HD0 := Lib.hid hD
    have HKW := Lib.hid hkp
    have HX := Lib.hid hx1
    clear ht hon hkp hlr hD hlen hsp hxm hx1
    have HSK : Hid (∀ V, Onl g W V → ((fun V => V.cell? ⟨w.heap.size, 0, none⟩ = some (.slice (some ⟨g, o, none⟩) m c) ∧ V.cell? ⟨w.heap.size + 1, 0, none⟩ = some (.int .i64 (m : Int)) ∧ V.cell? ⟨w.heap.size + 1, 1, none⟩ = some (.slice (some ⟨g2, 0, none⟩) (R2 * m) (R2 * m))) V)) := Lib.hid fun V hV => by
      have e1 := (((HON.out.trans hV).block w.heap.size (by omega) (by omega)).trans HL5.out)
      have e2 := (((HON.out.trans hV).block (w.heap.size + 1) (by omega) (by omega)).trans HT5.out)
      exact ⟨(rg_cell e1), (rg_cell e2), (rg_cell e2)⟩
    have CR := Lib.hid (fun W' => mrow_any g2 R2 m x hxR hR2 hR2b W')
    have CJ : Hid (∀ V, Below W.heap.size W V → Calls Tryz.prog 40 #[.slice (some ⟨g, o, none⟩) m c, .slice (some ⟨g2, rwO R2 m x, none⟩) m (R2 * m - x * m)] V fun e w' => e = .returned (.tuple #[]) ∧ Tb w' g R m (fun r z => (P r z ∨ (r = i ∧ ∃ y, y ∈ pre ∧ Q y z)) ∨ (r = i ∧ Q x z)) ∧ Sm g V w') := Lib.hid fun V hV =>
      mjoin_any (HT.out.next hV) (((H2.out.below HB5.out (by omega)).onl HON.out hne2.symm).next hV) hne2 hi hxR (by omega) HOO.out (fun h => rwO_eq hxR h) c _
    unfold rwV at CR
    clear HKW HS2
    gi_wp2_with fail
    refine wpIn_region_I (S := fun V => V.cell? ⟨w.heap.size, 0, none⟩ = some (.slice (some ⟨g, o, none⟩) m c) ∧ V.cell? ⟨w.heap.size + 1, 0, none⟩ = some (.int .i64 (m : Int)) ∧ V.cell? ⟨w.heap.size + 1, 1, none⟩ = some (.slice (some ⟨g2, 0, none⟩) (R2 * m) (R2 * m))) (by kernel_rfl) (HSK.out _ (Onl.of_below (drew_below W) (Nat.le_refl _))) (fun hHeld => ?_)
    refine wpAnyI_take (i := 0) (oi := _) (v := ?_) (by kernel_rfl) rfl (by kernel_rfl) (by kernel_rfl) (by kernel_rfl) (fun _ _ _ h => h) (Or.inl ⟨by rfl, ?_⟩) (fun _ => rfl) (by assumption) ?_
    rotate_left
    · (intro w hSw; obtain ⟨q0, q1, q2⟩ := hSw; go_simp; try with_reducible rfl)
    try simp only [nrm]
    refine wpAnyI_take (i := 1) (oi := _) (v := ?_) (by kernel_rfl) rfl (by kernel_rfl) (by kernel_rfl) (by kernel_rfl) (fun _ _ _ h => h) (Or.inl ⟨by rfl, ?_⟩) (fun _ => rfl) (by assumption) ?_
    rotate_left
    · (intro w hSw; obtain ⟨q0, q1, q2⟩ := hSw; go_simp; try with_reducible rfl)
    try simp only [nrm]
    refine wpAnyI_take (i := 2) (oi := _) (v := ?_) (by kernel_rfl) rfl (by kernel_rfl) (by kernel_rfl) (by kernel_rfl) (fun _ _ _ h => h) (Or.inl ⟨by rfl, ?_⟩) (fun _ => rfl) (by assumption) ?_
    rotate_left
    · (intro w hSw; obtain ⟨q0, q1, q2⟩ := hSw; go_simp; try with_reducible rfl)
    try simp only [nrm]
    refine wpAnyI_ready (rs := [3]) (by kernel_rfl) (by simp) ?_
    refine AllReadyI.cons (o := _) rfl (fun K hK => ?_) AllReadyI.nil
    go_simp
    refine ⟨trivial, (CallsIn.inRound l' (callsIn_wide.2 (CR.out _))).mono ?_⟩
    rintro e w8 ⟨rfl, hw8⟩
    have HV8 : Hid (Below W.heap.size W w8) := Lib.hid (by rw [hw8]; exact (drew_below W).alloc (Nat.le_refl _) _)
    clear hw8
    refine hK.out _ _ (HSK.out _ (Onl.of_below HV8.out (Nat.le_refl _))) (fun hHeld => ?_)
    clear hK K
    try simp only [nrm]
    refine wpAnyI_ready (rs := [4]) (by kernel_rfl) (by simp) ?_
    refine AllReadyI.cons (o := _) rfl (fun K hK => ?_) AllReadyI.nil
    go_simp
    refine ⟨trivial, (CallsIn.inRound l' (callsIn_wide.2 (CJ.out _ HV8.out))).mono ?_⟩
    rintro e w9 ⟨rfl, ht9, hs9⟩
    have HO9 := Lib.hid ((Onl.of_below HV8.out (Nat.le_refl _)).trans hs9.onl)
    have HT9 := Lib.hid ht9
    clear ht9 hs9
    refine hK.out _ _ (HSK.out _ HO9.out) (fun hHeld => ?_)
    clear hK K
    try simp only [nrm]
    refine wpAnyI_done (by kernel_rfl) ?_ _
    clear hHeld HSK CR CJ
    gi_wp2_with fail
    have hz := HON.out.size
    have ht := HT9.out.congr (Q := fun r z => P r z ∨ (r = i ∧ ∃ y, y ∈ pre ++ [x] ∧ Q y z)) (fun r z _ _ => by
      constructor
      · rintro ((h | ⟨h, y, h1, h2⟩) | ⟨h, h1⟩)
        · exact .inl h
        · exact .inr ⟨h, y, by simp [h1], h2⟩
        · exact .inr ⟨h, x, by simp, h1⟩
      · rintro (h | ⟨h, y, h1, h2⟩)
        · exact .inl (.inl h)
        · rcases List.mem_append.1 h1 with h1 | h1
          · exact .inl (.inr ⟨h, y, h1, h2⟩)
          · rw [List.mem_singleton] at h1
            exact .inr ⟨h, h1 ▸ h2⟩)
    exact ⟨onl_two HO9.out (by omega) (by omega) (by have := (Array.getElem?_eq_some_iff.1 HL0.out).1; omega), HKOF.out _ _ ht (fun r z hr => ⟨fun h => h.resolve_right (fun h => hr h.1), .inl⟩) (HON.out.trans HO9.out), ht, HON.out.trans HO9.out⟩
  case done =>
    rintro D xs W hS ⟨ht, hon⟩ hkp rfl hD
    have HD := Lib.hid hD
    clear hD hkp
    gi_wp2_with fail
    have hz := hon.size
    refine ⟨by simp, .inl ⟨_, _, rfl, run_takeDeferred HD.out, ?_⟩⟩
    refine ⟨.tuple #[], ?_, rfl, ?_, onl_put (Onl.trans (Onl.of_below HB5.out (Nat.le_refl _)) hon) (by omega) _⟩
    · simp [results, Tryz.results43, go_sem]
    · refine (ht.kept (World.putObj_heap_other (by omega))).congr fun r x _ _ => ?_
      rw [hS]
      simp only [ups_mem]
      constructor
      · rintro (h | ⟨h, y, ⟨h1, h2⟩, h3⟩)
        · exact .inl h
        · exact .inr ⟨h, y, h1, h2, h3⟩
      · rintro (h | ⟨h, y, h1, h2, h3⟩)
        · exact .inl h
        · exact .inr ⟨h, y, ⟨h1, h2⟩, h3⟩
end Go.Proofs.YtmlpkimbcjkbkaaGreatDoor

namespace Go.Proofs.YtmlpkimbcjkbkaaGreatDoor
open Go.RowKit

/-- Of what lay in memory only blocks of the kind C have turned. -/
structure Chg (C : Nat → Prop) (w w' : World) : Prop where
  os : w'.os = w.os
  tape : w'.tape = w.tape
  output : w'.output = w.output
  size : w.heap.size ≤ w'.heap.size
  block : ∀ k, k < w.heap.size → ¬ C k → w'.heap[k]? = w.heap[k]?
section
variable {C : Nat → Prop} {u v w w' : World}
theorem Chg.refl (C : Nat → Prop) (w : World) : Chg C w w := ⟨rfl, rfl, rfl, Nat.le_refl _, fun _ _ _ => rfl⟩
theorem Chg.trans {C' : Nat → Prop} (h : Chg C u v) (k : Chg C' v w) (hC : ∀ j, j < u.heap.size → C' j → C j) : Chg C u w :=
  ⟨k.os.trans h.os, k.tape.trans h.tape, k.output.trans h.output, Nat.le_trans h.size k.size, fun i hi hn => (k.block i (Nat.lt_of_lt_of_le hi h.size) (fun hc => hn (hC i hi hc))).trans (h.block i hi hn)⟩
theorem Chg.then (h : Chg C u v) (k : Chg C v w) : Chg C u w := h.trans k fun _ _ h => h
theorem Chg.of_below {B : Nat} (h : Below B w w') (hB : w.heap.size ≤ B) : Chg C w w' := ⟨h.os, h.tape, h.output, h.size, fun k hk _ => h.block k (Nat.lt_of_lt_of_le hk hB)⟩
theorem Chg.of_onl {b : Nat} (h : Onl b w w') (hb : b < w.heap.size → C b) : Chg C w w' := ⟨h.os, h.tape, h.output, h.size, fun k hk hn => h.block k hk (fun e => hn (e ▸ hb (e ▸ hk)))⟩
theorem Chg.below {n : Nat} (h : Chg C w w') (hn : n ≤ w.heap.size) (hC : ∀ k, C k → n ≤ k) : Below n w w' := ⟨h.os, h.tape, h.output, h.size, fun k hk => h.block k (Nat.lt_of_lt_of_le hk hn) (fun hc => by have := hC k hc; omega)⟩
theorem Chg.mono {C' : Nat → Prop} (h : Chg C w w') (hC : ∀ k, k < w.heap.size → C k → C' k) : Chg C' w w' := ⟨h.os, h.tape, h.output, h.size, fun k hk hn => h.block k hk (fun hc => hn (hC k hk hc))⟩
theorem Chg.set (h : Chg C u w) {p : Addr} (hp : p.block < u.heap.size → C p.block) (v : Value) : Chg C u (w.setCell p v) :=
  ⟨h.os, h.tape, h.output, by rw [World.size_setCell]; exact h.size, fun k hk hn => (Below.heap_setCell w p v k (fun e => hn (e ▸ hp (e ▸ hk)))).trans (h.block k hk hn)⟩
theorem Chg.put {k : Nat} (h : Chg C u w) (hk : u.heap.size ≤ k) (o : Obj) : Chg C u (w.putObj k o) :=
  ⟨h.os, h.tape, h.output, by rw [World.putObj_size]; exact h.size, fun j hj hn => (World.putObj_heap_other (by omega)).trans (h.block j hj hn)⟩
theorem Tb.chg {g R m : Nat} {P : Nat → Nat → Prop} (h : Tb w g R m P) (hc : Chg C w w') (hg : ¬ C g) : Tb w' g R m P := h.kept (hc.block g h.lt hg)
end
/-- No panic. -/
def NoP (Q : Exit → Act → World → Prop) (e : Exit) (a : Act) (w : World) : Prop := (∀ c, e ≠ .panic c) ∧ Q e a w
/-- A piece, as a value: where it is met by nothing, its tables' blocks. -/
def pcV (m : Nat) (E : Nat → Bool) (gf gl : Nat) : Value := .agg #[.bool (E 0), .bool (E 1), .bool (E 2), .bool (E 3), .int .i64 (m : Int), .slice (some ⟨gf, 0, none⟩) (4 * m) (4 * m), .int .i64 (m : Int), .slice (some ⟨gl, 0, none⟩) (4 * m) (4 * m)]
/-- The program that is built, and its builder: L leaves in all, m words; which blocks. -/
structure Bd where
  b : Nat
  p : Nat
  t : Nat
  a : Nat
  h : Nat
  m : Nat
  L : Nat
def Bd.prog (d : Bd) : Array Value := #[.int .i64 (d.m : Int), .int .i64 (d.m : Int), .slice (some ⟨d.t, 0, none⟩) (256 * d.m) (256 * d.m), .int .i64 (d.m : Int), .slice (some ⟨d.a, 0, none⟩) (d.L * d.m) (d.L * d.m), .int .i64 (d.m : Int), .slice (some ⟨d.h, 0, none⟩) (d.L * d.m) (d.L * d.m),
  .bool false, .bool false, .bool false, .bool false, .int .i64 0, .slice none 0 0, .int .i64 0, .slice none 0 0]
/-- The builder as it stands: the next leaf, the leaves that take a byte, which may stand behind which. -/
structure Bl (w : World) (d : Bd) (n : Nat) (T B : Nat → Nat → Prop) : Prop where
  blk : w.heap[d.b]? = some (.cells #[.pointer (some ⟨d.p, 0, none⟩), .int .i64 (n : Int)] 91 (0, 0))
  prog : w.heap[d.p]? = some (.cells d.prog 93 (0, 0))
  tk : Tb w d.t 256 d.m T
  ah : Tb w d.a d.L d.m (fun r x => B x r)
  bh : Tb w d.h d.L d.m B
  dz : Dz w
structure Bd.ok (d : Bd) : Prop where
  bp : d.b ≠ d.p
  bt : d.b ≠ d.t
  ba : d.b ≠ d.a
  bh : d.b ≠ d.h
  pt : d.p ≠ d.t
  pa : d.p ≠ d.a
  ph : d.p ≠ d.h
  ta : d.t ≠ d.a
  th : d.t ≠ d.h
  ah : d.a ≠ d.h
  m : d.m ≤ 100
  L : d.L ≤ 64 * d.m
def Bd.own (d : Bd) (k : Nat) : Prop := k = d.b ∨ k = d.t ∨ k = d.a ∨ k = d.h
section
variable {w w' : World} {d : Bd} {n : Nat} {T B : Nat → Nat → Prop}
theorem Bl.kept (h : Bl w d n T B) (hk : ∀ k, k = d.b ∨ k = d.p ∨ k = d.t ∨ k = d.a ∨ k = d.h ∨ k = (0 : Nat) → k < w.heap.size → w'.heap[k]? = w.heap[k]?) : Bl w' d n T B :=
  ⟨(hk _ (.inl rfl) (Array.getElem?_eq_some_iff.1 h.blk).1).trans h.blk, (hk _ (.inr (.inl rfl)) (Array.getElem?_eq_some_iff.1 h.prog).1).trans h.prog, h.tk.kept (hk _ (.inr (.inr (.inl rfl))) h.tk.lt),
    h.ah.kept (hk _ (.inr (.inr (.inr (.inl rfl)))) h.ah.lt), h.bh.kept (hk _ (.inr (.inr (.inr (.inr (.inl rfl))))) h.bh.lt), h.dz.kept (hk _ (.inr (.inr (.inr (.inr (.inr rfl))))) h.dz.lt)⟩
theorem Bl.next (h : Bl w d n T B) (hb : Below w.heap.size w w') : Bl w' d n T B := h.kept fun k _ hl => hb.block k hl
theorem Bl.lt (h : Bl w d n T B) : d.b < w.heap.size ∧ d.p < w.heap.size ∧ d.t < w.heap.size ∧ d.a < w.heap.size ∧ d.h < w.heap.size := ⟨(Array.getElem?_eq_some_iff.1 h.blk).1, (Array.getElem?_eq_some_iff.1 h.prog).1, h.tk.lt, h.ah.lt, h.bh.lt⟩
theorem Bl.congr {T' B' : Nat → Nat → Prop} (h : Bl w d n T B) (hT : ∀ i x, i < 256 → x < 64 * d.m → (T i x ↔ T' i x)) (hB : ∀ i x, i < 64 * d.m → x < 64 * d.m → (B i x ↔ B' i x)) (hL : d.L ≤ 64 * d.m) : Bl w d n T' B' :=
  ⟨h.blk, h.prog, h.tk.congr hT, h.ah.congr (fun i x hi hx => hB x i hx (by omega)), h.bh.congr (fun i x hi hx => hB i x (by omega) hx), h.dz⟩
end
end Go.Proofs.YtmlpkimbcjkbkaaGreatDoor
