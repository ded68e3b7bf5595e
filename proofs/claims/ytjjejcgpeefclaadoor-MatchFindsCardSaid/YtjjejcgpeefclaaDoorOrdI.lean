/-
  A LAW, of no program: a region that draws its order, INSIDE A FENCE, IN A ROUND TOO, where the loads are taken first under a condition on the world (Derived.OrdersHeld's law, fenced as Derived.OrdersIn's is; no operation of the region is a defer statement).
-/
import Derived.Test.YtjjejcgpeefclaaDoorMtW1
import Derived.Test.YtjjejcgpeefclaaDoorSeqQ
import Derived.WalkMore
import Derived.ScopeJumps
import Derived.LoopIn
import Derived.LoopNIn
import Derived.OwnWalkIn
import Derived.RegionIn
import Derived.Shelf.Abstract
import Derived.Shelf.RegionOpen
import Derived.Sort.QuietTacIn
import Derived.TacticsInMore
import Derived.OrdersHeld
import Derived.OrdersIn
import Derived.Deep.RegionHeld
namespace Go.Proofs.YtjjejcgpeefclaaDoor
open Go.RowKit
attribute [local go_sem] Oper.semAt_some

open Classical in
/-- Those of a set that are below n, in order. -/
noncomputable def ups (Q : Nat → Prop) : Nat → List Nat
  | 0 => []
  | n + 1 => if Q n then ups Q n ++ [n] else ups Q n
theorem ups_mem {Q : Nat → Prop} {x : Nat} : ∀ n, x ∈ ups Q n ↔ x < n ∧ Q x
  | 0 => by simp [ups]
  | n + 1 => by
    unfold ups
    split
    · rename_i h
      rw [List.mem_append, ups_mem n, List.mem_singleton]
      constructor
      · rintro (h1 | rfl)
        · exact ⟨by omega, h1.2⟩
        · exact ⟨by omega, h⟩
      · rintro ⟨h1, h2⟩
        by_cases hx : x = n
        · exact .inr hx
        · exact .inl ⟨by omega, h2⟩
    · rename_i h
      rw [ups_mem n]
      constructor
      · rintro ⟨h1, h2⟩; exact ⟨by omega, h2⟩
      · rintro ⟨h1, h2⟩
        have : x ≠ n := fun e => h (e ▸ h2)
        exact ⟨by omega, h2⟩
theorem ups_len {Q : Nat → Prop} : ∀ n, (ups Q n).length ≤ n
  | 0 => by simp [ups]
  | n + 1 => by
    have := ups_len (Q := Q) n
    unfold ups
    split
    · simp; omega
    · omega
theorem ups_on {Q : Nat → Prop} {n : Nat} (h : Q n) : ups Q (n + 1) = ups Q n ++ [n] := by
  rw [ups, if_pos h]
theorem ups_off {Q : Nat → Prop} {n : Nat} (h : ¬ Q n) : ups Q (n + 1) = ups Q n := by
  rw [ups, if_neg h]
theorem ups_gap {Q : Nat → Prop} {c : Nat} : ∀ d, (∀ b, b < d → ¬ Q (c + b)) → ups Q (c + d) = ups Q c
  | 0, _ => rfl
  | d + 1, h => by
    rw [show c + (d + 1) = c + d + 1 from rfl, ups_off (h d (by omega))]
    exact ups_gap d (fun b hb => h b (by omega))
theorem ups_pre {Q : Nat → Prop} {n : Nat} : ∀ d, ups Q n <+: ups Q (n + d)
  | 0 => List.prefix_refl _
  | d + 1 => by
    have h := ups_pre (Q := Q) (n := n) d
    rw [show n + (d + 1) = n + d + 1 from rfl]
    by_cases hq : Q (n + d)
    · rw [ups_on hq]
      exact h.trans (List.prefix_append _ _)
    · rw [ups_off hq]; exact h
theorem ups_pref {Q : Nat → Prop} {n m : Nat} (h : n ≤ m) : ups Q n <+: ups Q m := by
  have := ups_pre (Q := Q) (n := n) (m - n)
  rwa [show n + (m - n) = m by omega] at this
/-- A row of words: the set Q. -/
def Rw (W : World) (g o m : Nat) (Q : Nat → Prop) : Prop := ∃ (R i : Nat) (P : Nat → Nat → Prop), i < R ∧ (0 < m → o = i * m) ∧ Tb W g R m P ∧ ∀ x, x < 64 * m → (P i x ↔ Q x)
theorem Rw.kept {W W' : World} {g o m : Nat} {Q : Nat → Prop} (h : Rw W g o m Q) (hk : W'.heap[g]? = W.heap[g]?) : Rw W' g o m Q := by
  obtain ⟨R, i, P, h1, h2, h3, h4⟩ := h
  exact ⟨R, i, P, h1, h2, h3.kept hk, h4⟩
theorem Rw.lt {W : World} {g o m : Nat} {Q : Nat → Prop} (h : Rw W g o m Q) : g < W.heap.size := by
  obtain ⟨R, i, P, h1, h2, h3, h4⟩ := h
  exact h3.lt
theorem Rw.cell {W : World} {g o m k : Nat} {Q : Nat → Prop} (h : Rw W g o m Q) (hk : k < m) : W.cell? ⟨g, o + k, none⟩ = some (.int .u64 ((wd Q k : Nat) : Int)) := by
  obtain ⟨R, i, P, h1, h2, h3, h4⟩ := h
  rw [h2 (by omega), h3.cell h1 hk, wd_congr fun b hb => h4 _ (by omega)]
theorem Tb.rw {W : World} {g R m i o : Nat} {P : Nat → Nat → Prop} (h : Tb W g R m P) (hi : i < R) (ho : 0 < m → o = i * m) : Rw W g o m (P i) := ⟨R, i, P, hi, ho, h, fun _ _ => Iff.rfl⟩
/-- What the iterator reads. -/
def KpL (bs g m o c : Nat) (Q : Nat → Prop) (W : World) : Prop := W.heap[bs]? = some (.cells #[.slice (some ⟨g, o, none⟩) m c] 91 (0, 0)) ∧ Rw W g o m Q ∧ Dz W
theorem KpL.kept {bs g m o c : Nat} {Q : Nat → Prop} {W W' : World} (h : KpL bs g m o c Q W) (hk : ∀ k, (k = bs ∨ k = g ∨ k = (0 : Nat)) → k < W.heap.size → W'.heap[k]? = W.heap[k]?) : KpL bs g m o c Q W' :=
  ⟨(hk bs (.inl rfl) (Array.getElem?_eq_some_iff.1 h.1).1).trans h.1, h.2.1.kept (hk g (.inr (.inl rfl)) h.2.1.lt), h.2.2.kept (hk _ (.inr (.inr rfl)) h.2.2.lt)⟩
theorem KpL.next {bs g m o c : Nat} {Q : Nat → Prop} {W W' : World} (h : KpL bs g m o c Q W) (hb : Below W.heap.size W W') : KpL bs g m o c Q W' := h.kept fun k _ hl => hb.block k hl
theorem KpL.put {bs g m o c : Nat} {Q : Nat → Prop} {W : World} {k : Nat} {r : Loop} (h : KpL bs g m o c Q W) (hl : W.heap[k]? = some (.loop r)) (x : Obj) : KpL bs g m o c Q (W.putObj k x) := by
  refine h.kept fun j hj _ => World.putObj_heap_other fun e => ?_
  subst e
  rcases hj with rfl | rfl | rfl
  · have := h.1; rw [hl] at this; cases this
  · obtain ⟨R, i, P, h1, h2, h3, h4⟩ := h.2.1
    unfold Tb at h3; rw [hl] at h3; cases h3
  · have h0 := h.2.2 0 (by decide)
    simp [World.cell?, hl] at h0
theorem Tb.ne_dz {w : World} {g R m : Nat} {P : Nat → Nat → Prop} (h : Tb w g R m P) (hd : Dz w) : g ≠ (0 : Nat) := fun e => by
  subst e
  have h0 := hd 0 (by decide)
  rw [rg_cell h] at h0
  unfold tabA at h0
  obtain ⟨hlt, h1⟩ := Array.getElem?_eq_some_iff.1 h0
  simp only [Array.getElem_ofFn] at h1
  cases h1
theorem all_call (g o m c : Nat) (w : World) :
    Calls Tryd.prog 59 #[.slice (some ⟨g, o, none⟩) m c] w fun e w' => ∃ bs, e = .returned (.func (.func 70) #[] #[.pointer (some ⟨bs, 0, none⟩)]) ∧ w.heap.size ≤ bs ∧ w'.heap[bs]? = some (.cells #[.slice (some ⟨g, o, none⟩) m c] 91 (0, 0)) ∧ Below w.heap.size w w' := by
  go_enter Tryd.func59, Tryd.ntmps59
  go_wp2
  go_ret
  exact ⟨w.heap.size, rfl, Nat.le_refl _, mt_heap_new _ _, (Below.refl _ _).alloc (Nat.le_refl _) _⟩
def encL (x : Nat) : Array Value := #[.int .i64 (x : Int)]
set_option maxHeartbeats 200000 in
set_option maxRecDepth 100000 in
theorem all_seq {g m o c : Nat} {Q : Nat → Prop} (hm : m ≤ 10000000) (bs n : Nat) (_hn : 1 ≤ n) :
    SeqQ Fence.wide n Tryd.prog 70 #[.pointer (some ⟨bs, 0, none⟩)] encL (· = ups Q (64 * m)) (· <+: ups Q (64 * m)) (64 * m + 1) (KpL bs g m o c Q) := by
  intro l J Jx W hK hY h0
  have hbs : W.cell? ⟨bs, 0, none⟩ = some (.slice (some ⟨g, o, none⟩) m c) := by simp [World.cell?, hK.1]
  have HYm := Lib.hid hY
  have HK0 := Lib.hid hK
  have HJ0 := Lib.hid h0
  have hmi : (m : Int) ≤ 10000000 := by omega
  clear hY hK h0
  refine callsIn_of_wp Tryd.func70 rfl trivial ?_ rfl
  simp only [Tryd.ntmps70, List.size_toArray, List.length_cons, List.length_nil, Nat.reduceAdd, Nat.reduceSub, Array.replicate_succ, Array.replicate_zero, List.push_toArray, List.append_toArray, List.nil_append, List.cons_append]
  gi_wp2_with fail
  gi_loopw [7] (fun iv wr => ∃ k : Nat, k ≤ m ∧ iv = .int .i64 (k : Int) ∧ Hid (J (ups Q (64 * k)) wr) ∧ Hid (KpL bs g m o c Q wr))
    (fun iv _ => m - (intOf iv).toNat)
  case atStart => exact ⟨0, Nat.zero_le _, rfl, HJ0, HK0⟩
  case round =>
    obtain ⟨k, hk, rfl, HJ, HK⟩ := hrel
    clear HJ0 HK0
    by_cases hkm : k < m
    · have hki : ((k : Int) < (m : Int)) := by omega
      obtain ⟨d, hd⟩ : ∃ d, wd Q k = d := ⟨_, rfl⟩
      have hcl : wr.cell? ⟨g, o + k, none⟩ = some (.int .u64 (d : Int)) := by
        rw [← hd]
        exact HK.out.2.1.cell hkm
      have HD := Lib.hid (show d = wd (fun x => Q x ∧ 64 * k ≤ x) k by rw [← hd]; exact wd_congr fun b _ => ⟨fun h => ⟨h, by omega⟩, fun h => h.1⟩)
      clear hd
      obtain ⟨W5, hW5⟩ : ∃ x, x = wr := ⟨_, rfl⟩
      subst hW5
      gi_wp2_with fail
      gi_loopw [4] (fun wv wr => ∃ d c' : Nat, wv = .int .u64 (d : Int) ∧ 64 * k ≤ c' ∧ c' ≤ 64 * (k + 1) ∧ Hid (d = wd (fun x => Q x ∧ c' ≤ x) k) ∧ Hid (J (ups Q c') wr) ∧ Hid (KpL bs g m o c Q wr))
        (fun wv _ => (intOf wv).toNat)
      case atStart => exact ⟨d, 64 * k, rfl, Nat.le_refl _, by omega, HD, HJ, HK⟩
      case round =>
        clear HD HJ HK hcl
        obtain ⟨d, c', rfl, hc1, hc2, HD, HJ, HK⟩ := hrel
        by_cases hd : d = 0
        · subst hd
          have HJ2 : Hid (J (ups Q (64 * (k + 1))) wr) := Lib.hid (by
            have h := (wd_zero _ _).1 HD.out.symm
            have := ups_gap (Q := Q) (c := c') (64 * (k + 1) - c') (fun b hb hp => by
              refine h (c' + b - 64 * k) (by omega) ?_
              rw [show 64 * k + (c' + b - 64 * k) = c' + b by omega]
              exact ⟨hp, by omega⟩)
            rw [show c' + (64 * (k + 1) - c') = 64 * (k + 1) by omega] at this
            rw [this]; exact HJ.out)
          clear HD HJ
          gi_wp2_with fail
          (repeat apply Exists.intro)
          refine ⟨⟨k + 1, by omega, by simp, HJ2, HK⟩, ?_⟩
          simp [intOf]; omega
        · have hdl : d < 18446744073709551616 := by rw [HD.out]; exact wd_lt _ _
          have hdb : ((d : Int) != 0) = true := by simp; omega
          have CT := Lib.hid (mtz_any d hdl hd wr HK.out.2.2)
          obtain ⟨t, ht⟩ : ∃ t, Lib.ctz 64 d = t := ⟨_, rfl⟩
          obtain ⟨hon, hlow⟩ := low_on d hdl hd
          have hlt := low_test d hdl hd
          have ht64 : t < 64 := by have := (ctz_spec d hdl hd).choose_spec.2; omega
          rw [ht] at CT hon hlow hlt
          clear ht
          have hP : Q (64 * k + t) ∧ c' ≤ 64 * k + t := by
            rw [HD.out, wd_iff _ _ ht64] at hon
            exact hon
          have hgap : ups Q (64 * k + t) = ups Q c' := by
            have := ups_gap (Q := Q) (c := c') (64 * k + t - c') (fun b hb hp => by
              have hz := hlow (c' + b - 64 * k) (by omega)
              have : d.testBit (c' + b - 64 * k) = true := by
                rw [HD.out, wd_iff _ _ (by omega), show 64 * k + (c' + b - 64 * k) = c' + b by omega]
                exact ⟨hp, by omega⟩
              rw [this] at hz; cases hz)
            rwa [show c' + (64 * k + t - c') = 64 * k + t by omega] at this
          have hon2 : ups Q (64 * k + t + 1) = ups Q c' ++ [64 * k + t] := by rw [ups_on hP.1, hgap]
          have HSP : Hid (ups Q c' ++ [64 * k + t] <+: ups Q (64 * m)) := Lib.hid (by rw [← hon2]; exact ups_pref (by omega))
          have hpl : (ups Q c').length < 64 * m + 1 := by have := ups_len (Q := Q) c'; omega
          have hE := low_test d hdl hd
          have hand := bits_and_u64_nat d (d - 1) hdl (by omega)
          have hw : IntKind.u64.wrap ((d : Int) - 1) = ((d - 1 : Nat) : Int) := by rw [IntKind.wrap_u64]; omega
          obtain ⟨d', hd'⟩ : ∃ d', d &&& (d - 1) = d' := ⟨_, rfl⟩
          have HD' : Hid (d' = wd (fun x => Q x ∧ 64 * k + t + 1 ≤ x) k) := Lib.hid (by
            refine wd_ext (by rw [← hd']; exact Nat.and_lt_two_pow (n := 64) _ (by omega)) fun b hb => ?_
            rw [← hd', hlt, Bool.and_eq_true, HD.out, wd_iff _ _ hb]
            constructor
            · rintro ⟨⟨h1, h2⟩, h3⟩
              refine ⟨h1, ?_⟩
              have hbt : b ≠ t := by simpa using h3
              by_cases hlt : b < t
              · have := hlow b hlt
                rw [HD.out] at this
                have h4 := (wd_iff (fun x => Q x ∧ c' ≤ x) k hb).2 ⟨h1, h2⟩
                rw [this] at h4; cases h4
              · omega
            · rintro ⟨h1, h2⟩
              refine ⟨⟨h1, by omega⟩, ?_⟩
              have : b ≠ t := by omega
              simpa using this)
          have HLT : Hid (d' < d) := Lib.hid (by rw [← hd']; have := Nat.and_le_right (n := d) (m := d - 1); omega)
          rw [hd'] at hand
          obtain ⟨X, hX⟩ : ∃ X, 64 * k + t = X := ⟨_, rfl⟩
          have hXi : (k : Int) * 64 + (t : Int) = (X : Int) := by omega
          have HX1 := Lib.hid (show 64 * k ≤ X ∧ X + 1 ≤ 64 * (k + 1) by omega)
          rw [hX] at HSP HD' hon2
          obtain ⟨fn, tmps, assign, body, hy, hR⟩ := HYm.out (ups Q c') X wr HJ.out HK.out hpl HSP.out
          rw [show encL X = #[.int .i64 (X : Int)] from rfl] at hy
          have HR := Lib.hid hR
          have HON := Lib.hid hon2
          have hdb : ((d : Int) != 0) = true := by simp; omega
          have hkx : (k : Int) ≤ 10000000 := by omega
          have ht6 : (t : Int) ≤ 64 := by omega
          clear hd hdl hE hlt hlow hon hP hgap hpl hd' HD hX hR hon2
          gi_wp2_with fail
          refine ⟨trivial, (callsIn_wide.2 CT.out).mono ?_⟩
          rintro e w3 ⟨rfl, rfl⟩
          gi_wp2_with fail
          refine HR.out.mono ?_
          rintro e1 W3 ⟨hk3, (⟨rfl, hJ3⟩ | ⟨rfl, hJ3⟩)⟩
          · have HK3 := Lib.hid hk3
            have HJ3 : Hid (J (ups Q (X + 1)) W3) := Lib.hid (by rw [HON.out]; exact hJ3)
            clear hk3 hJ3 hy
            gi_wp2_with fail
            refine ⟨⟨d', X + 1, rfl, by have := HX1.out; omega, HX1.out.2, HD', HJ3, HK3⟩, ?_⟩
            have := HLT.out
            simp [intOf]; omega
          · have HK3 := Lib.hid hk3
            clear hk3
            gi_wp2_with fail
            refine bodyPost_ret (results_none rfl _ _ _) rfl ?_
            exact ⟨⟨_, rfl⟩, HK3.out, .inr ⟨_, HSP.out, hJ3⟩⟩
    · have hki : ¬ ((k : Int) < (m : Int)) := by omega
      obtain rfl : k = m := by omega
      gi_wp2_with fail
      go_end0
      exact ⟨⟨_, rfl⟩, HK.out, .inl HJ.out⟩
end Go.Proofs.YtjjejcgpeefclaaDoor

namespace Go.Proofs.YtjjejcgpeefclaaDoor
open Go

def noDefer (ops : Array Oper) : Bool := ops.all fun o => match o.op with | .defer _ => false | _ => true
theorem noDefer_spec {ops : Array Oper} (h : noDefer ops = true) (j : Nat) (o : Oper) (ho : ops[j]? = some o) (c : Call) : o.op ≠ .defer c := fun e => by
  have := Array.all_eq_true_iff_forall_mem.1 h o (Array.mem_of_getElem? ho)
  rw [e] at this
  cases this
section
variable {F : Fence} {n : Nat} {P : Program} {ops : Array Oper} {Q : Exit → Act → World → Prop} {md : Region.Mode} {S : World → Prop}

def wpAnyI (F : Fence) (n : Nat) (P : Program) (md : Region.Mode) (ops : Array Oper) (Q : Exit → Act → World → Prop) (S : World → Prop) : Nat → Array Bool → Act → World → Prop
  | 0, listed, a, w => Region.ready md ops listed = [] ∧ Q .normal a w
  | fuel + 1, listed, a, w =>
    (Region.ready md ops listed = [] → Q .normal a w) ∧
    ∀ i ∈ Region.ready md ops listed, wpOpIn F n P ops Q i (fun a' w' => S w' ∧ wpAnyI F n P md ops Q S fuel (listed.setIfInBounds i true) a' w') a w
theorem wpAnyIn_of_I : ∀ (fuel : Nat) (listed : Array Bool) (a : Act) (w : World), wpAnyI F n P md ops Q S fuel listed a w → wpAnyIn F n P md ops Q fuel listed a w
  | 0, _, _, _, h => h
  | fuel + 1, _, _, _, h => ⟨h.1, fun i hi => wpOpIn_mono (fun a' w' h' => wpAnyIn_of_I fuel _ a' w' h'.2) (h.2 i hi)⟩
def YIn (P : Program) (ops : Array Oper) (S : World → Prop) (o : Oper) (v : Value) (a : Act) : Prop := YieldsIf P ops S o v a ∧ ∀ w, o.about P w a.eval = none
theorem YIn.wpOpIn {i : Nat} {o : Oper} {v : Value} {a : Act} (hnd : ∀ c, o.op ≠ .defer c) (hi : ops[i]? = some o) (hy : YIn P ops S o v a)
    {K : Act → World → Prop} {w : World} (hS : S w) (h : K (a.put o.dst v) w) : wpOpIn F n P ops Q i K a w := by
  unfold Go.wpOpIn
  simp only [hi]
  have hab : ∀ f, o.about P w a.eval = some f → F.fn f := fun f hf => by rw [hy.2 w] at hf; cases hf
  rcases hy.1 with ⟨hw, hv⟩ | ⟨hw, rfl⟩
  · simp only [hw, if_true, Oper.wpIn, Oper.semAt_plain F _ _ hnd, hv w hS, Oper.uponIn]; exact ⟨hab, h⟩
  · simp only [hw, Bool.false_eq_true, if_false]; exact ⟨hab, h⟩
theorem YIn.of_same {o : Oper} {v : Value} {a a' : Act} (hy : YIn P ops S o v a) (he : execOp a'.eval o = execOp a.eval o)
    (hw : Region.wanted o (yielded ops a'.tmps) = Region.wanted o (yielded ops a.tmps)) (hb : ∀ w, o.about P w a'.eval = o.about P w a.eval) : YIn P ops S o v a' :=
  ⟨hy.1.of_same he hw, fun w => by rw [hb w]; exact hy.2 w⟩
theorem wpOpIn_putI {j : Nat} {oi oj : Oper} {v : Value} (hnd : ∀ c, oj.op ≠ .defer c) (hj : ops[j]? = some oj) (hap : oi.apart ops oj = true)
    (hsi : ∀ cs b, oi.op ≠ .select cs b) (hsj : ∀ cs b, oj.op ≠ .select cs b)
    (hQ : ∀ c a w, Q (.panic c) (a.put oi.dst v) w → Q (.panic c) a w) {K : Act → World → Prop} {a : Act} {w : World}
    (hy : YIn P ops S oi v a) (h : wpOpIn F n P ops Q j K (a.put oi.dst v) w) :
    wpOpIn F n P ops Q j (fun a' w' => YIn P ops S oi v a' ∧ K (a'.put oi.dst v) w') a w := by
  obtain ⟨h1, h2, h3⟩ := Oper.apart_spec hap
  have keep : ∀ (a : Act), YIn P ops S oi v a → ∀ u, YIn P ops S oi v (a.put oj.dst u) := fun a hy u =>
    hy.of_same (execOp_put oi hsi a oj.dst u h3) (wanted_put oi a oj.dst u h3) (fun w => about_put oi w a oj.dst u h3)
  have keepD : ∀ d, YIn P ops S oi v { a with defers := d :: a.defers } := fun d => hy.of_same rfl rfl (fun _ => rfl)
  unfold wpOpIn at *
  simp only [hj] at *
  rw [wanted_put oj a oi.dst v h1, about_put oj w a oi.dst v h1] at h
  split
  · rename_i hw
    simp only [hw, if_true] at h
    unfold Oper.wpIn at *
    rw [about_put oj w a oi.dst v h1] at h
    refine ⟨h.1, ?_⟩
    have h := h.2
    rw [Oper.semAt_plain F _ _ hnd, execOp_put oj hsj a oi.dst v h1] at h
    rw [Oper.semAt_plain F _ _ hnd]
    generalize (execOp a.eval oj).run P w = r at *
    cases r with
    | ok x w' =>
      cases x <;> simp only [Oper.uponIn] at h ⊢
      case value u => exact ⟨keep a hy u, by rw [← Act.put_comm a v u h2]; exact h⟩
      case skip => exact ⟨keep a hy _, by rw [← Act.put_comm a v undef h2]; exact h⟩
      case defer d =>
        refine ⟨keep _ (keepD d) _, ?_⟩
        rw [← Act.put_comm _ v undef h2, ← Act.put_defers]
        exact h
      case enter f args =>
        refine ⟨h.1, CallsIn.mono h.2 fun e w'' he => ?_⟩
        cases e with
        | returned u => exact ⟨keep a hy u, by rw [← Act.put_comm a v u h2]; exact he⟩
        | panicked c => exact hQ _ _ _ he
        | outgrown => exact he
      case row row args => exact ⟨h.1, RowsIn.mono h.2 fun u w'' he => ⟨keep a hy u, by rw [← Act.put_comm a v u h2]; exact he⟩⟩
      case round l f tmps assign body =>
        refine ⟨h.1, RoundIn.mono h.2 fun e w'' he => ?_⟩
        cases e with
        | returned u => exact ⟨keep a hy u, by rw [← Act.put_comm a v u h2]; exact he⟩
        | panicked c => exact hQ _ _ _ he
        | outgrown => exact he
    | halt x w' =>
      cases x <;> simp only [Oper.uponIn] at h ⊢
      case panic u => exact hQ _ _ _ h
  · rename_i hw
    simp only [hw] at h
    exact ⟨h.1, keep a hy _, by rw [← Act.put_comm a v undef h2]; exact h.2⟩
theorem wpAnyI_first {i : Nat} {oi : Oper} {v : Value} (hnd : ∀ (j : Nat) (o : Oper), ops[j]? = some o → ∀ c, o.op ≠ .defer c) (hi : ops[i]? = some oi) (hsel : ∀ (j : Nat) (o : Oper) cs b, ops[j]? = some o → o.op ≠ .select cs b)
    (hQ : ∀ c a w, Q (.panic c) (a.put oi.dst v) w → Q (.panic c) a w) :
    ∀ (fuel : Nat) (listed : Array Bool) (a : Act) (w : World),
      (∀ j oj, ops[j]? = some oj → j ≠ i → listed.getD j true = false → (∀ e ∈ oj.after, Region.binds md e = true → e.on ≠ i) → oi.apart ops oj = true) →
      i ∈ Region.ready md ops listed → YIn P ops S oi v a → S w →
      wpAnyI F n P md ops Q S fuel (listed.setIfInBounds i true) (a.put oi.dst v) w → wpAnyI F n P md ops Q S (fuel + 1) listed a w := by
  intro fuel
  induction fuel with
  | zero =>
    intro listed a w _ hr hy hS H
    refine ⟨fun h => (by rw [h] at hr; cases hr), fun j hj => ?_⟩
    by_cases hji : j = i
    · subst hji; exact hy.wpOpIn (hnd _ _ hi) hi hS ⟨hS, H⟩
    · have := ready_mono hj hji
      rw [H.1] at this
      cases this
  | succ fuel ih =>
    intro listed a w hfree hr hy hS H
    refine ⟨fun h => (by rw [h] at hr; cases hr), fun j hj => ?_⟩
    by_cases hji : j = i
    · subst hji; exact hy.wpOpIn (hnd _ _ hi) hi hS ⟨hS, H⟩
    · have h1 := H.2 j (ready_mono hj hji)
      obtain ⟨hjun, oj, hoj, hall⟩ := mem_ready.1 hj
      have hnot : ∀ e ∈ oj.after, Region.binds md e = true → e.on ≠ i := fun e he hb heq => by
        have h1 := hall e he hb
        have h0 := (mem_ready.1 hr).1
        rw [heq] at h1
        rcases Nat.lt_or_ge i listed.size with h' | h'
        · simp [h'] at h0 h1; rw [h0] at h1; cases h1
        · simp [Array.getElem?_eq_none h'] at h1
      have h2 := wpOpIn_putI (hnd _ _ hoj) hoj (hfree j oj hoj hji hjun hnot) (fun cs b => hsel i oi cs b hi) (fun cs b => hsel j oj cs b hoj) hQ hy h1
      have hfree' : ∀ k ok, ops[k]? = some ok → k ≠ i → (listed.setIfInBounds j true).getD k true = false →
          (∀ e ∈ ok.after, Region.binds md e = true → e.on ≠ i) → oi.apart ops ok = true := fun k ok hk hki hun hno => by
        refine hfree k ok hk hki ?_ hno
        by_cases hjk : j = k
        · subst hjk; exact hjun
        · rw [getD_set_ne true hjk] at hun; exact hun
      refine wpOpIn_mono (fun a' w' h3 => ⟨h3.2.1, ih (listed.setIfInBounds j true) a' w' hfree' (ready_mono hr (Ne.symm hji)) h3.1 h3.2.1 ?_⟩) h2
      rw [Array.setIfInBounds_comm _ _ hji]
      exact h3.2.2
/-- Take number i first. -/
theorem wpAnyI_take {i : Nat} {oi : Oper} {v : Value} {fuel : Nat} {listed : Array Bool} {a : Act} {w : World} (hnd : noDefer ops = true) (hi : ops[i]? = some oi)
    (hs : Region.noSelect ops = true) (hf : Region.free md ops listed i = true) (hr : (Region.ready md ops listed).contains i = true)
    (hQ : ∀ c a w, Q (.panic c) (a.put oi.dst v) w → Q (.panic c) a w) (hy : YieldsIf P ops S oi v a) (hab : ∀ w, oi.about P w a.eval = none) (hS : S w)
    (h : wpAnyI F n P md ops Q S fuel (listed.setIfInBounds i true) (a.put oi.dst v) w) : wpAnyI F n P md ops Q S (fuel + 1) listed a w :=
  wpAnyI_first (noDefer_spec hnd) hi (Region.noSelect_spec hs) hQ fuel listed a w (Region.free_spec hi hf) (by simpa using hr) ⟨hy, hab⟩ hS h
def AllReadyI (F : Fence) (n : Nat) (P : Program) (md : Region.Mode) (ops : Array Oper) (Q : Exit → Act → World → Prop) (S : World → Prop) (fuel : Nat) (listed : Array Bool) (a : Act) (w : World) (rs : List Nat) : Prop :=
  ∀ i ∈ rs, wpOpIn F n P ops Q i (fun a' w' => S w' ∧ wpAnyI F n P md ops Q S fuel (listed.setIfInBounds i true) a' w') a w
theorem AllReadyI.nil {fuel : Nat} {listed : Array Bool} {a : Act} {w : World} : AllReadyI F n P md ops Q S fuel listed a w [] := fun _ h => by cases h
/-- A call: S is shown anew. -/
theorem AllReadyI.cons {fuel : Nat} {listed : Array Bool} {a : Act} {w : World} {i : Nat} {o : Oper} {rs : List Nat} (ho : ops[i]? = some o)
    (h : ∀ K' : Act → World → Prop, Shut (∀ a w, S w → (S w → wpAnyI F n P md ops Q S fuel (listed.setIfInBounds i true) a w) → K' a w) → if Region.wanted o (yielded ops a.tmps) = true then Oper.wpIn F n P o a w K' Q else (∀ f, o.about P w a.eval = some f → F.fn f) ∧ K' (a.put o.dst undef) w)
    (hs : AllReadyI F n P md ops Q S fuel listed a w rs) : AllReadyI F n P md ops Q S fuel listed a w (i :: rs) := fun j hj => by
  rcases List.mem_cons.1 hj with rfl | hj
  · exact wpOpIn_step ho (fun K' hK => h K' (fun a w hS hW => hK a w ⟨hS, hW hS⟩))
  · exact hs j hj
theorem wpAnyI_ready {rs : List Nat} {fuel : Nat} {listed : Array Bool} {a : Act} {w : World} (hr : Region.ready md ops listed = rs) (hne : rs ≠ [])
    (h : AllReadyI F n P md ops Q S fuel listed a w rs) : wpAnyI F n P md ops Q S (fuel + 1) listed a w := ⟨fun h0 => absurd (hr ▸ h0) hne, hr ▸ h⟩
theorem wpAnyI_done {listed : Array Bool} {a : Act} {w : World} (hr : Region.ready md ops listed = []) (h : Q .normal a w) : ∀ fuel, wpAnyI F n P md ops Q S fuel listed a w
  | 0 => ⟨hr, h⟩
  | _ + 1 => ⟨fun _ => h, by rw [hr]; simp⟩
/-- The beginning. -/
theorem wpIn_region_I {id : Nat} {a : Act} {w : World} (hm : P.follows .mixedOrders = true) (hS : S w.drew)
    (h : S w.drew → wpAnyI F n P .any ops Q S ops.size (Array.replicate ops.size false) a w.drew) : (Code.region id ops true).wpIn F n P Q a w :=
  wpIn_region_any hm (wpAnyIn_of_I _ _ _ _ (h hS))
end
end Go.Proofs.YtjjejcgpeefclaaDoor
