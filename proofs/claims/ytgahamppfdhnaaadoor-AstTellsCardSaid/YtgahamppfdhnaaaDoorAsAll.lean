/-
  CONTRACTS of layer 12's All and of the function that it hands over.
-/
import Derived.Test.YtgahamppfdhnaaaDoorAsCl
import Derived.Test.YtgahamppfdhnaaaDoorSeqP
namespace Go.Proofs.YtgahamppfdhnaaaDoor
open Go.RowKit Go.Shelf
attribute [local go_sem] Oper.semAt_some

/-- What is told of a node: how deep it lies, its texts, its place. -/
abbrev Ky := Nat × ByteArray × ByteArray × Int
def keyF (f : Fe) : Ky := (f.deep, f.a.nd.op, f.a.nd.tx, f.a.nd.pl)
def keyY (x : Nat × Nd) : Ky := (x.1, x.2.op, x.2.tx, x.2.pl)
def encY (x : Nat × Nd) : Array Value := #[.int .i64 (x.1 : Int), x.2.val]
mutual
def flatT (d : Nat) : T → List Ky
  | .mk op tx pl ks => (d, op, tx, pl) :: flatTL (d + 1) ks
def flatTL (d : Nat) : List T → List Ky
  | [] => []
  | t :: l => flatT d t ++ flatTL d l
end
mutual
theorem flat_keys (d : Nat) : ∀ a : AT, (flat d a).map keyF = flatT d (er a)
  | .mk op tx pl kp kc g o ks => by rw [flat, er, flatT, List.map_cons, flatL_keys (d + 1) ks]; rfl
theorem flatL_keys (d : Nat) : ∀ l : List AT, (flatL d l).map keyF = flatTL d (erL l)
  | [] => by rw [flatL, erL, flatTL]; rfl
  | a :: l => by rw [flatL, erL, flatTL, List.map_append, flat_keys d a, flatL_keys d l]
end
mutual
theorem flatT_len (d : Nat) : ∀ t : T, (flatT d t).length = t.size
  | .mk op tx pl ks => by rw [flatT, T.size, List.length_cons, flatTL_len (d + 1) ks]; omega
theorem flatTL_len (d : Nat) : ∀ l : List T, (flatTL d l).length = sizeL l
  | [] => by rw [flatTL, sizeL]; rfl
  | t :: l => by rw [flatTL, sizeL, List.length_append, flatT_len d t, flatTL_len d l]
end
mutual
theorem flat_all {P : AT → Prop} (hk : ∀ a, P a → ∀ k ∈ a.ks, P k) : ∀ (d : Nat) (a : AT), P a → ∀ x ∈ flat d a, P x.a
  | d, .mk op tx pl kp kc g o ks, h, x, hx => by
    rw [flat] at hx
    rcases List.mem_cons.1 hx with rfl | hx
    · exact h
    · exact flatL_all hk (d + 1) ks (fun k hm => hk _ h k hm) x hx
theorem flatL_all {P : AT → Prop} (hk : ∀ a, P a → ∀ k ∈ a.ks, P k) : ∀ (d : Nat) (l : List AT), (∀ k ∈ l, P k) → ∀ x ∈ flatL d l, P x.a
  | d, [], _, x, hx => by rw [flatL] at hx; cases hx
  | d, a :: l, h, x, hx => by
    rw [flatL] at hx
    rcases List.mem_append.1 hx with hx | hx
    · exact flat_all hk d a (h a (by simp)) x hx
    · exact flatL_all hk d l (fun k hm => h k (List.mem_cons_of_mem _ hm)) x hx
end
theorem VT.root {w : World} {b : Nat} {n : Nd} {t : T} (h : VT w b n t) : n.op = t.op ∧ n.tx = t.tx ∧ n.pl = t.pl := by
  obtain ⟨ks, _, rfl⟩ := h
  exact ⟨rfl, rfl, rfl⟩
theorem VT.of_mem {w : World} {B : Nat → Prop} {a : AT} (h : Mem w B a) : VT w 0 a.nd (er a) := by
  obtain ⟨_, _, h3, h4⟩ := Mem.iff.1 h
  refine ⟨a.ks, ⟨by cases a; rfl, h3, MemL.kept (fun _ _ _ => rfl) (fun _ _ _ => Nat.zero_le _) _ h4⟩, ?_⟩
  cases a; rw [er]; rfl
theorem Same.below {C : Nat → Prop} {A B : World} {n : Nat} (hb : Below n A B) (h : ∀ k, C k → k < n) : Same C A B :=
  ⟨hb.os, hb.tape, hb.output, hb.size, fun k hk => hb.block k (h k hk)⟩
theorem Came.cell {C : Nat → Prop} {A B : World} (h : Came C A B) {a : Addr} (hk : a.block < A.heap.size) (hn : ¬ C a.block) : B.cell? a = A.cell? a := World.cell?_of_block (h.block _ hk hn)
theorem Came.frozen {C : Nat → Prop} {A B : World} (h : Came C A B) {a : Addr} (hk : a.block < A.heap.size) (hn : ¬ C a.block) : B.frozen? a = A.frozen? a := World.frozen?_of_block (h.block _ hk hn)
def AlPost (t : T) (w : World) (e : Ending) (w' : World) : Prop := ∃ bh n2, e = .returned (.func (.func 27) #[] #[.pointer (some ⟨bh, 0, none⟩)]) ∧ w.heap.size ≤ bh ∧ NodeAt w' bh 0 n2 ∧ VT w' w.heap.size n2 t ∧ Below w.heap.size w w'
set_option maxHeartbeats 4000000 in
set_option maxRecDepth 100000 in
theorem all_call (nd : Nd) (t : T) (b : Nat) (w : World) (h : VT w b nd t) (hz : t.size ≤ 1000) (hx : TxOk t) : Calls Tryd.prog 16 #[nd.val] w (AlPost t w) := by
  obtain ⟨op, tx, pl, kp, kn, kc⟩ := nd
  have b1 : Below w.heap.size w (w.alloc (.cells #[.string op, .string tx, .int .i64 pl, .slice kp kn kc] 25)) := (Below.refl _ _).alloc (Nat.le_refl _) _
  have C := Lib.hid (clone_any ⟨op, tx, pl, kp, kn, kc⟩ t b _ (h.next b1) hz hx)
  have HB1 := Lib.hid b1
  simp only [Nd.val] at C ⊢
  clear h b1 hx
  go_enter Tryd.func16, Tryd.ntmps16
  go_wp2_with fail
  refine C.out.mono ?_
  rintro e w2 ⟨⟨m1, m2, m3, m4, m5, m6⟩, rfl, hv, hb2⟩
  have hb12 := HB1.out.trans (hb2.mono HB1.out.size)
  have hb3 : Below w2.heap.size w2 (w2.alloc (.cells #[.string m1, .string m2, .int .i64 m3, .slice m4 m5 m6] 25)) := (Below.refl _ _).alloc (Nat.le_refl _) _
  have HE : Hid (AlPost t w (.returned (.func (.func 27) #[] #[.pointer (some ⟨w2.heap.size, 0, none⟩)])) (w2.alloc (.cells #[.string m1, .string m2, .int .i64 m3, .slice m4 m5 m6] 25))) := Lib.hid
    ⟨w2.heap.size, ⟨m1, m2, m3, m4, m5, m6⟩, rfl, hb12.size, node_new w2 ⟨m1, m2, m3, m4, m5, m6⟩, (hv.next hb3).less HB1.out.size, hb12.trans (hb3.mono hb12.size)⟩
  clear hv hb2 hb12 hb3 C HB1
  simp only [Nd.val]
  go_wp2_with fail
  go_ret
  exact HE.out
set_option maxHeartbeats 16000000 in
set_option maxRecDepth 100000 in
theorem all_seq {w : World} {bh lo : Nat} {nd : Nd} {t : T} (hn : NodeAt w bh 0 nd) (h : VT w lo nd t) (hz : t.size ≤ 1000) (hx : TxOk t) (n : Nat) (h1n : 1 ≤ n) :
    SeqC Fence.wide n Tryd.prog 27 #[.pointer (some ⟨bh, 0, none⟩)] encY (fun xs => xs.map keyY = flatT 0 t) (fun xs => xs.map keyY <+: flatT 0 t) (t.size + 1) w (fun k => k = bh ∨ (lo ≤ k ∧ k < w.heap.size)) := by
  obtain ⟨ks, htv, rfl⟩ := h
  obtain ⟨a, ha⟩ : ∃ a, a = nd.at bh 0 ks := ⟨_, rfl⟩
  have hgo : a.g = bh ∧ a.o = 0 := by rw [ha]; exact ⟨rfl, rfl⟩
  have hera : er a = nd.t ks := by rw [ha]; simp [Nd.at, er, Nd.t]
  have hmem : Mem w (fun k => k = bh ∨ (lo ≤ k ∧ k < w.heap.size)) a := by
    rw [ha]
    exact TV.at (htv.kept (fun _ _ _ => rfl) (fun g hg hl => .inr ⟨hg, hl⟩)) (.inl rfl) hn
  have hbh : bh < w.heap.size := hn.lt
  rw [← hera] at hz hx ⊢
  clear hera ha htv hn
  intro l J Jx C0 W hW hZ hC0 hJ hJx hY h0
  have hmW := hmem.next hW
  have HS : Hid (∀ x ∈ flat 0 a, (er x.a).size ≤ 1000 ∧ TxOk (er x.a)) := Lib.hid fun x hx2 => flat_all (P := fun a => (er a).size ≤ 1000 ∧ TxOk (er a)) (fun a h k hk => ⟨by
    have := size_kid hk
    have h1 : (er a).size = 1 + sizeL (erL a.ks) := by cases a; rw [er, T.size]; rfl
    have := h.1
    omega, h.2.at.2.2 k hk⟩) 0 a ⟨hz, hx⟩ x hx2
  have HSM : Hid (∀ W', Mem W' (fun k => k = bh ∨ (lo ≤ k ∧ k < w.heap.size)) a → ∀ x ∈ flat 0 a, Mem W' (fun k => k = bh ∨ (lo ≤ k ∧ k < w.heap.size)) x.a) := Lib.hid fun W' hm x hx2 => flat_all (fun a h k hk => (Mem.iff.1 h).2.2.2.all k hk) 0 a hm x hx2
  have HKF := Lib.hid (flat_keys 0 a)
  have HFL := Lib.hid (flat_len 0 a)
  have hzB : ∀ k, (k = bh ∨ (lo ≤ k ∧ k < w.heap.size)) → k < W.heap.size := fun k hk => by have := hW.size; rcases hk with rfl | hk <;> omega
  have HZB := Lib.hid hzB
  have HZ := Lib.hid hZ
  have HC0 := Lib.hid hC0
  have HJm := Lib.hid hJ
  have HJx := Lib.hid hJx
  have HYm := Lib.hid hY
  have H0 := Lib.hid h0
  have HMW := Lib.hid hmW
  have HGO := Lib.hid hgo
  have HSZ := Lib.hid hz
  clear hJ hJx hY h0 hmW hmem hZ hC0 hW hbh hx hzB hgo hz
  refine callsIn_of_wp_marks Tryd.func27 rfl trivial ?_ rfl
  simp only [Tryd.ntmps27, List.size_toArray, List.length_cons, List.length_nil, Nat.reduceAdd, Nat.reduceSub, Array.replicate_succ, Array.replicate_zero, List.push_toArray, List.append_toArray, List.nil_append, List.cons_append]
  have t1 : Fence.wide.fn 28 := trivial
  have t2 : Fence.wide.fn 26 := trivial
  gi_wp2_with fail
  refine (callsIn_wide.2 (each_call bh 0 _)).mono ?_
  rintro e w5 ⟨bs, rfl, hbs, hbk, hb5⟩
  have hbox : (W.alloc (.cells #[.func (.yield l) #[] #[]] 61)).cell? ⟨W.heap.size, 0, none⟩ = some (.func (.yield l) #[] #[]) := by simp [go_sem]
  have hba : Below W.heap.size W (W.alloc (.cells #[.func (.yield l) #[] #[]] 61)) := (Below.refl _ _).alloc (Nat.le_refl _) _
  have hza : (W.alloc (.cells #[.func (.yield l) #[] #[]] 61)).heap.size = W.heap.size + 1 := by simp
  rw [hza] at hbs
  have hb5' : Below W.heap.size W w5 := hba.trans (hb5.mono hba.size)
  have hz5 := hb5.size
  rw [hza] at hz5
  have HY5 : Hid (w5.cell? ⟨W.heap.size, 0, none⟩ = some (.func (.yield l) #[] #[])) := Lib.hid ((hb5.cell (p := ⟨W.heap.size, 0, none⟩) (by rw [hza]; show W.heap.size < W.heap.size + 1; omega)).trans hbox)
  have hbs5 : bs < w5.heap.size := as_lt hbk
  have HK5 : Hid (KpT (fun k => k = bh ∨ (lo ≤ k ∧ k < w.heap.size)) bs a w5) := Lib.hid ⟨by rw [HGO.out.1, HGO.out.2]; exact hbk, HMW.out.next hb5'⟩
  have HB5 := Lib.hid hb5'
  clear hbk hb5 hbox hba hza hb5'
  dsimp only
  gi_wp2_with fail
  have hb6 : ∀ r, Below w5.heap.size w5 ((w5.alloc (.deferred (some []))).alloc (.loop r)) := fun r => ((Below.refl _ _).alloc (Nat.le_refl _) _).alloc (by simp) _
  refine wpIn_rangeQ (F := Fence.wide) rfl (by omega) (gf := 34) (lb := #[.pointer (some ⟨bs, 0, none⟩)]) rfl trivial (enters_of Tryd.func34 (by kernel_rfl) rfl)
    (each_seq (B := fun k => k = bh ∨ (lo ≤ k ∧ k < w.heap.size)) (a := a) (by have := HSZ.out; omega) bs _) (fun _ => rfl) (fun W r o h hl => KpT.put h hl o)
    (fun pre W' => ∃ C xs, xs.map keyY = pre.map keyF ∧ J xs C W' ∧ Came C0 w5 W' ∧ (∀ k, C k → C0 k ∨ w5.heap.size + 2 ≤ k) ∧ ∀ k, C k → k < W'.heap.size)
    (fun c pre W' => c = .ret ∧ ∃ C xs, xs.map keyY = pre.map keyF ∧ Jx xs C W' ∧ Came C0 w5 W' ∧ (∀ k, C k → C0 k ∨ w5.heap.size + 2 ≤ k)) ?hI ?hIx ?hK0 ?h0 ?a1 ?assign ?body ?done ?stop
  case hI =>
    rintro pre W' r o ⟨C, xs, h1, h2, h3, h4, h5⟩ hlr
    have hne : ¬ C (w5.heap.size + 1) := fun hc => by
      have := HB5.out.size
      rcases h4 _ hc with h | h
      · have := HC0.out _ h; omega
      · omega
    exact ⟨C, xs, h1, HJm.out _ _ _ _ h2 (same_put _ _ _ hne), ⟨h3.os, h3.tape, h3.output, by rw [World.putObj_size]; exact h3.size, fun k hk hn => (World.putObj_heap_other (by omega)).trans (h3.block k hk hn)⟩, h4, fun k hk => by rw [World.putObj_size]; exact h5 k hk⟩
  case hIx =>
    rintro c pre W' r o ⟨h0, C, xs, h1, h2, h3, h4⟩ hlr
    have hne : ¬ C (w5.heap.size + 1) := fun hc => by
      have := HB5.out.size
      rcases h4 _ hc with h | h
      · have := HC0.out _ h; omega
      · omega
    exact ⟨h0, C, xs, h1, HJx.out _ _ _ _ h2 (same_put _ _ _ hne), ⟨h3.os, h3.tape, h3.output, by rw [World.putObj_size]; exact h3.size, fun k hk hn => (World.putObj_heap_other (by omega)).trans (h3.block k hk hn)⟩, h4⟩
  case hK0 =>
    intro r
    exact HK5.out.kept (fun k _ hl => (hb6 r).block k hl)
  case h0 =>
    intro r
    have hb := HB5.out.trans ((hb6 r).mono HB5.out.size)
    exact ⟨C0, [], rfl, HJm.out _ _ _ _ H0.out (Same.below hb HC0.out), Came.of_below (hb6 r) (Nat.le_refl _), fun k h => .inl h, fun k h => Nat.lt_of_lt_of_le (HC0.out k h) hb.size⟩
  case assign =>
    intro l' x W' K hK
    simp only [encF]
    gi_wp2
    exact hK
  case body =>
    rintro l' pre x W1 ⟨C, xs, hxs, hJ1, hc5, hC, hCz⟩ hkp ⟨r, hlr⟩ hD hlen hsp
    have hxm : x ∈ flat 0 a := hsp.subset (by simp)
    have hmx := HSM.out W1 hkp.2 x hxm
    obtain ⟨hs1, hs2⟩ := HS.out x hxm
    obtain ⟨_, hnx, _, _⟩ := Mem.iff.1 hmx
    have hWsz := HB5.out.size
    have cy1 : W1.cell? ⟨W.heap.size, 0, none⟩ = some (.func (.yield l) #[] #[]) := (hc5.cell (a := ⟨W.heap.size, 0, none⟩) (by show W.heap.size < w5.heap.size; omega) (fun h => by have := HC0.out _ h; exact absurd this (Nat.lt_irrefl _))).trans HY5.out
    have hdr : Below W1.heap.size W1 W1.drew := ⟨rfl, rfl, rfl, Nat.le_refl _, fun _ _ => rfl⟩
    have CC : Hid (Calls Tryd.prog 26 #[x.a.nd.val] W1.drew (GgPost (er x.a) W1.drew)) := Lib.hid (clone_any _ _ 0 _ ((VT.of_mem hmx).next hdr) hs1 hs2)
    have hroot : ∀ (m : Nd) (w8 : World) (b : Nat), VT w8 b m (er x.a) → keyY (x.deep, m) = keyF x := fun m w8 b hv => by
      obtain ⟨r1, r2, r3⟩ := hv.root
      unfold keyY keyF
      rw [r1, r2, r3]
      cases x.a; rw [er]; rfl
    have hkeys : ∀ (m : Nd) (w8 : World) (b : Nat), VT w8 b m (er x.a) → (xs ++ [(x.deep, m)]).map keyY = (pre ++ [x]).map keyF := fun m w8 b hv => by
      rw [List.map_append, List.map_append, hxs, List.map_singleton, List.map_singleton, hroot m w8 b hv]
    have hpre : (pre ++ [x]).map keyF <+: flatT 0 (er a) := by
      rw [← HKF.out]
      exact hsp.map keyF
    have hxl : xs.length < (er a).size + 1 := by
      have h1 : xs.length = pre.length := by rw [← List.length_map (f := keyY), hxs, List.length_map]
      have := HFL.out
      omega
    have hCW : ∀ k, C k → C0 k ∨ W.heap.size ≤ k := fun k hk => (hC k hk).imp id (fun h => by omega)
    have HYY : Hid (∀ (m : Nd) (w8 : World), Below W1.drew.heap.size W1.drew w8 → VT w8 W1.drew.heap.size m (er x.a) → YieldAt Fence.wide (n - 1 - 1 - 1) Tryd.prog l (encY (x.deep, m)) w8 fun e W' =>
        ∃ C' : Nat → Prop, (∀ k, C' k → C k ∨ w8.heap.size ≤ k) ∧ (∀ k, C' k → k < W'.heap.size) ∧ Came C w8 W' ∧ ((e = .returned (.bool true) ∧ J (xs ++ [(x.deep, m)]) C' W') ∨ (e = .returned (.bool false) ∧ Jx (xs ++ [(x.deep, m)]) C' W'))) := Lib.hid fun m w8 hb hv => by
      have hb' : Below W1.heap.size W1 w8 := hdr.trans (hb.mono (Nat.le_refl _))
      exact yieldAt_wide (HYm.out xs (x.deep, m) C w8 (HJm.out _ _ _ _ hJ1 (Same.below hb' hCz)) ((Came.of_below HB5.out (Nat.le_refl _)).trans (hc5.trans (Came.of_below hb' (Nat.le_refl _)) (fun _ h => Or.inl h)) (fun k h => .inl h)) hCW hxl (by rw [hkeys m w8 _ hv]; exact hpre))
    have HFIN : Hid (∀ (m : Nd) (w8 W3 : World) (C' : Nat → Prop), Below W1.drew.heap.size W1.drew w8 → VT w8 W1.drew.heap.size m (er x.a) → (∀ k, C' k → C k ∨ w8.heap.size ≤ k) → (∀ k, C' k → k < W3.heap.size) → Came C w8 W3 →
        (J (xs ++ [(x.deep, m)]) C' W3 → Two w5.heap.size W1 W3 ∧ KpT (fun k => k = bh ∨ (lo ≤ k ∧ k < w.heap.size)) bs a W3 ∧ ∃ C xs, xs.map keyY = (pre ++ [x]).map keyF ∧ J xs C W3 ∧ Came C0 w5 W3 ∧ (∀ k, C k → C0 k ∨ w5.heap.size + 2 ≤ k) ∧ ∀ k, C k → k < W3.heap.size) ∧
        (Jx (xs ++ [(x.deep, m)]) C' W3 → Two w5.heap.size W1 W3 ∧ KpT (fun k => k = bh ∨ (lo ≤ k ∧ k < w.heap.size)) bs a W3 ∧ Code.ret = Code.ret ∧ ∃ C xs, xs.map keyY = (pre ++ [x]).map keyF ∧ Jx xs C W3 ∧ Came C0 w5 W3 ∧ (∀ k, C k → C0 k ∨ w5.heap.size + 2 ≤ k))) := Lib.hid fun m w8 W3 C' hb hv hf' hbd' hc' => by
      have hb' : Below W1.heap.size W1 w8 := hdr.trans (hb.mono (Nat.le_refl _))
      have hD1 := as_lt hD
      have hD2 := as_lt hlr
      have hkb : ∀ k, k < W1.heap.size → ¬ C k → W3.heap[k]? = W1.heap[k]? := fun k hk hn => (hc'.block k (Nat.lt_of_lt_of_le hk hb'.size) hn).trans (hb'.block k hk)
      have hnC : ∀ k, W.heap.size ≤ k → k < w5.heap.size + 2 → ¬ C k := fun k h1 h2 hc => by
        rcases hC k hc with h | h
        · have := HC0.out _ h; omega
        · omega
      have htwo : Two w5.heap.size W1 W3 := ⟨hkb _ hD1 (hnC _ (by omega) (by omega)), hkb _ hD2 (hnC _ (by omega) (by omega))⟩
      have hkp3 : KpT (fun k => k = bh ∨ (lo ≤ k ∧ k < w.heap.size)) bs a W3 := hkp.kept (fun k hk hl => hkb k hl (by
        rcases hk with rfl | hk
        · exact hnC _ (by omega) (by omega)
        · intro hc
          rcases hC k hc with h | h
          · exact HZ.out k hk h
          · have := HZB.out k hk; omega))
      have hcm3 : Came C0 w5 W3 := (hc5.trans (Came.of_below hb' (Nat.le_refl _)) (fun _ h => Or.inl h)).trans hc' (fun k hk => (hC k hk).imp id (fun h => by omega))
      have hC3 : ∀ k, C' k → C0 k ∨ w5.heap.size + 2 ≤ k := fun k hk => (hf' k hk).elim (hC k) (fun h => .inr (by have := hb'.size; omega))
      exact ⟨fun h => ⟨htwo, hkp3, C', _, hkeys m w8 _ hv, h, hcm3, hC3, hbd'⟩, fun h => ⟨htwo, hkp3, rfl, C', _, hkeys m w8 _ hv, h, hcm3, hC3⟩⟩
    have cy : W1.drew.cell? ⟨W.heap.size, 0, none⟩ = some (.func (.yield l) #[] #[]) := cy1
    obtain ⟨e0, e1, e2, e3⟩ := hnx.kept (show W1.drew.heap[x.a.g]? = W1.heap[x.a.g]? from rfl)
    clear hxs hJ1 hc5 hC hCz hkp hlr hD hlen hsp hxm hmx hs1 hs2 hnx cy1 hroot hkeys hpre hxl hCW hdr
    simp only [Nd.val] at CC
    generalize x.a.nd.op = n1 at *
    generalize x.a.nd.tx = n2 at *
    generalize x.a.nd.pl = n3 at *
    generalize x.a.nd.kp = n4 at *
    generalize x.a.nd.kn = n5 at *
    generalize x.a.nd.kc = n6 at *
    generalize x.a.g = xg at *
    generalize x.a.o = xo at *
    gi_wp2_with fail
    refine wpIn_region_any (by kernel_rfl) ?_
    change wpAnyIn _ _ _ _ _ _ _ _ _ (World.drew _)
    refine wpAnyIn_ready (rs := [0, 1, 2]) (by kernel_rfl) (by simp) ?_
    refine AllReadyIn.cons (o := _) rfl (fun K hK => ?_) ?_
    · go_simp
      refine hK _ _ ?_
      clear hK K
      try simp only [List.getElem_toArray, List.getElem_cons_zero, List.getElem_cons_succ, Act.put, List.setIfInBounds_toArray, List.set_cons_zero, List.set_cons_succ]
      refine wpAnyIn_ready (rs := [1, 2]) (by kernel_rfl) (by simp) ?_
      refine AllReadyIn.cons (o := _) rfl (fun K hK => ?_) ?_
      · go_simp
        refine hK _ _ ?_
        clear hK K
        try simp only [List.getElem_toArray, List.getElem_cons_zero, List.getElem_cons_succ, Act.put, List.setIfInBounds_toArray, List.set_cons_zero, List.set_cons_succ]
        refine wpAnyIn_ready (rs := [2]) (by kernel_rfl) (by simp) ?_
        refine AllReadyIn.cons (o := _) rfl (fun K hK => ?_) ?_
        · go_simp
          refine hK _ _ ?_
          clear hK K
          try simp only [List.getElem_toArray, List.getElem_cons_zero, List.getElem_cons_succ, Act.put, List.setIfInBounds_toArray, List.set_cons_zero, List.set_cons_succ]
          refine wpAnyIn_ready (rs := [3]) (by kernel_rfl) (by simp) ?_
          refine AllReadyIn.cons (o := _) rfl (fun K hK => ?_) ?_
          · go_simp
            refine hK _ _ ?_
            clear hK K
            try simp only [List.getElem_toArray, List.getElem_cons_zero, List.getElem_cons_succ, Act.put, List.setIfInBounds_toArray, List.set_cons_zero, List.set_cons_succ]
            refine wpAnyIn_ready (rs := [4]) (by kernel_rfl) (by simp) ?_
            refine AllReadyIn.cons (o := _) rfl (fun K hK => ?_) ?_
            · go_simp
              refine hK _ _ ?_
              clear hK K
              try simp only [List.getElem_toArray, List.getElem_cons_zero, List.getElem_cons_succ, Act.put, List.setIfInBounds_toArray, List.set_cons_zero, List.set_cons_succ]
              refine wpAnyIn_ready (rs := [5]) (by kernel_rfl) (by simp) ?_
              refine AllReadyIn.cons (o := _) rfl (fun K hK => ?_) ?_
              · go_simp
                refine ⟨by simp [Fence.wide], (CallsIn.inRound l' (callsIn_wide.2 CC.out)).mono ?_⟩
                rintro e w8 ⟨⟨m1, m2, m3, m4, m5, m6⟩, rfl, hv8, hb8⟩
                have HV8 := Lib.hid hv8
                have HB8 := Lib.hid hb8
                have c8 : w8.cell? ⟨W.heap.size, 0, none⟩ = some (.func (.yield l) #[] #[]) := (hb8.cell (p := ⟨W.heap.size, 0, none⟩) (World.block_lt_of_cell? _ _ cy)).trans cy
                clear hv8 hb8
                simp only [Nd.val]
                refine hK _ _ ?_
                clear hK K
                try simp only [List.getElem_toArray, List.getElem_cons_zero, List.getElem_cons_succ, Act.put, List.setIfInBounds_toArray, List.set_cons_zero, List.set_cons_succ]
                refine wpAnyIn_ready (rs := [6]) (by kernel_rfl) (by simp) ?_
                refine AllReadyIn.cons (o := _) rfl (fun K hK => ?_) ?_
                · obtain ⟨fn, tmps, assign, body, hy, hR⟩ := HYY.out _ _ HB8.out HV8.out
                  dsimp only [encY, Nd.val] at hy
                  go_simp
                  refine ⟨by simp [Fence.wide], RoundIn.mono (F := Fence.wide.inRound l') hR ?_⟩
                  rintro e W3 ⟨C', hf', hbd', hc', hE⟩
                  obtain ⟨hT, hF⟩ := HFIN.out _ _ _ _ HB8.out HV8.out hf' hbd' hc'
                  have HT := Lib.hid hT
                  have HF := Lib.hid hF
                  clear hR hy hf' hbd' hc' hT hF c8 cy
                  rcases hE with ⟨rfl, hJ3⟩ | ⟨rfl, hJ3⟩
                  · have HG := Lib.hid (HT.out hJ3)
                    clear hJ3 HT HF
                    refine hK _ _ ?_
                    clear hK K
                    try simp only [List.getElem_toArray, List.getElem_cons_zero, List.getElem_cons_succ, Act.put, List.setIfInBounds_toArray, List.set_cons_zero, List.set_cons_succ]
                    refine wpAnyIn_ready (rs := [7]) (by kernel_rfl) (by simp) ?_
                    refine AllReadyIn.cons (o := _) rfl (fun K hK => ?_) AllReadyIn.nil
                    go_simp
                    refine hK _ _ ?_
                    clear hK K
                    try simp only [List.getElem_toArray, List.getElem_cons_zero, List.getElem_cons_succ, Act.put, List.setIfInBounds_toArray, List.set_cons_zero, List.set_cons_succ]
                    refine wpAnyIn_done (by kernel_rfl) ?_ _
                    gi_wp2_with fail
                    exact HG.out
                  · have HG := Lib.hid (HF.out hJ3)
                    clear hJ3 HT HF
                    refine hK _ _ ?_
                    clear hK K
                    try simp only [List.getElem_toArray, List.getElem_cons_zero, List.getElem_cons_succ, Act.put, List.setIfInBounds_toArray, List.set_cons_zero, List.set_cons_succ]
                    refine wpAnyIn_ready (rs := [7]) (by kernel_rfl) (by simp) ?_
                    refine AllReadyIn.cons (o := _) rfl (fun K hK => ?_) AllReadyIn.nil
                    go_simp
                    refine hK _ _ ?_
                    clear hK K
                    try simp only [List.getElem_toArray, List.getElem_cons_zero, List.getElem_cons_succ, Act.put, List.setIfInBounds_toArray, List.set_cons_zero, List.set_cons_succ]
                    refine wpAnyIn_done (by kernel_rfl) ?_ _
                    gi_wp2_with fail
                    exact ⟨HG.out.1, HG.out.2.1, rfl, HG.out.2.2.2⟩
                exact AllReadyIn.nil
              exact AllReadyIn.nil
            exact AllReadyIn.nil
          exact AllReadyIn.nil
        exact AllReadyIn.nil
      refine AllReadyIn.cons (o := _) rfl (fun K hK => ?_) ?_
      · go_simp
        refine hK _ _ ?_
        clear hK K
        try simp only [List.getElem_toArray, List.getElem_cons_zero, List.getElem_cons_succ, Act.put, List.setIfInBounds_toArray, List.set_cons_zero, List.set_cons_succ]
        refine wpAnyIn_ready (rs := [1, 3]) (by kernel_rfl) (by simp) ?_
        refine AllReadyIn.cons (o := _) rfl (fun K hK => ?_) ?_
        · go_simp
          refine hK _ _ ?_
          clear hK K
          try simp only [List.getElem_toArray, List.getElem_cons_zero, List.getElem_cons_succ, Act.put, List.setIfInBounds_toArray, List.set_cons_zero, List.set_cons_succ]
          refine wpAnyIn_ready (rs := [3]) (by kernel_rfl) (by simp) ?_
          refine AllReadyIn.cons (o := _) rfl (fun K hK => ?_) ?_
          · go_simp
            refine hK _ _ ?_
            clear hK K
            try simp only [List.getElem_toArray, List.getElem_cons_zero, List.getElem_cons_succ, Act.put, List.setIfInBounds_toArray, List.set_cons_zero, List.set_cons_succ]
            refine wpAnyIn_ready (rs := [4]) (by kernel_rfl) (by simp) ?_
            refine AllReadyIn.cons (o := _) rfl (fun K hK => ?_) ?_
            · go_simp
              refine hK _ _ ?_
              clear hK K
              try simp only [List.getElem_toArray, List.getElem_cons_zero, List.getElem_cons_succ, Act.put, List.setIfInBounds_toArray, List.set_cons_zero, List.set_cons_succ]
              refine wpAnyIn_ready (rs := [5]) (by kernel_rfl) (by simp) ?_
              refine AllReadyIn.cons (o := _) rfl (fun K hK => ?_) ?_
              · go_simp
                refine ⟨by simp [Fence.wide], (CallsIn.inRound l' (callsIn_wide.2 CC.out)).mono ?_⟩
                rintro e w8 ⟨⟨m1, m2, m3, m4, m5, m6⟩, rfl, hv8, hb8⟩
                have HV8 := Lib.hid hv8
                have HB8 := Lib.hid hb8
                have c8 : w8.cell? ⟨W.heap.size, 0, none⟩ = some (.func (.yield l) #[] #[]) := (hb8.cell (p := ⟨W.heap.size, 0, none⟩) (World.block_lt_of_cell? _ _ cy)).trans cy
                clear hv8 hb8
                simp only [Nd.val]
                refine hK _ _ ?_
                clear hK K
                try simp only [List.getElem_toArray, List.getElem_cons_zero, List.getElem_cons_succ, Act.put, List.setIfInBounds_toArray, List.set_cons_zero, List.set_cons_succ]
                refine wpAnyIn_ready (rs := [6]) (by kernel_rfl) (by simp) ?_
                refine AllReadyIn.cons (o := _) rfl (fun K hK => ?_) ?_
                · obtain ⟨fn, tmps, assign, body, hy, hR⟩ := HYY.out _ _ HB8.out HV8.out
                  dsimp only [encY, Nd.val] at hy
                  go_simp
                  refine ⟨by simp [Fence.wide], RoundIn.mono (F := Fence.wide.inRound l') hR ?_⟩
                  rintro e W3 ⟨C', hf', hbd', hc', hE⟩
                  obtain ⟨hT, hF⟩ := HFIN.out _ _ _ _ HB8.out HV8.out hf' hbd' hc'
                  have HT := Lib.hid hT
                  have HF := Lib.hid hF
                  clear hR hy hf' hbd' hc' hT hF c8 cy
                  rcases hE with ⟨rfl, hJ3⟩ | ⟨rfl, hJ3⟩
                  · have HG := Lib.hid (HT.out hJ3)
                    clear hJ3 HT HF
                    refine hK _ _ ?_
                    clear hK K
                    try simp only [List.getElem_toArray, List.getElem_cons_zero, List.getElem_cons_succ, Act.put, List.setIfInBounds_toArray, List.set_cons_zero, List.set_cons_succ]
                    refine wpAnyIn_ready (rs := [7]) (by kernel_rfl) (by simp) ?_
                    refine AllReadyIn.cons (o := _) rfl (fun K hK => ?_) AllReadyIn.nil
                    go_simp
                    refine hK _ _ ?_
                    clear hK K
                    try simp only [List.getElem_toArray, List.getElem_cons_zero, List.getElem_cons_succ, Act.put, List.setIfInBounds_toArray, List.set_cons_zero, List.set_cons_succ]
                    refine wpAnyIn_done (by kernel_rfl) ?_ _
                    gi_wp2_with fail
                    exact HG.out
                  · have HG := Lib.hid (HF.out hJ3)
                    clear hJ3 HT HF
                    refine hK _ _ ?_
                    clear hK K
                    try simp only [List.getElem_toArray, List.getElem_cons_zero, List.getElem_cons_succ, Act.put, List.setIfInBounds_toArray, List.set_cons_zero, List.set_cons_succ]
                    refine wpAnyIn_ready (rs := [7]) (by kernel_rfl) (by simp) ?_
                    refine AllReadyIn.cons (o := _) rfl (fun K hK => ?_) AllReadyIn.nil
                    go_simp
                    refine hK _ _ ?_
                    clear hK K
                    try simp only [List.getElem_toArray, List.getElem_cons_zero, List.getElem_cons_succ, Act.put, List.setIfInBounds_toArray, List.set_cons_zero, List.set_cons_succ]
                    refine wpAnyIn_done (by kernel_rfl) ?_ _
                    gi_wp2_with fail
                    exact ⟨HG.out.1, HG.out.2.1, rfl, HG.out.2.2.2⟩
                exact AllReadyIn.nil
              exact AllReadyIn.nil
            exact AllReadyIn.nil
          exact AllReadyIn.nil
        refine AllReadyIn.cons (o := _) rfl (fun K hK => ?_) ?_
        · go_simp
          refine hK _ _ ?_
          clear hK K
          try simp only [List.getElem_toArray, List.getElem_cons_zero, List.getElem_cons_succ, Act.put, List.setIfInBounds_toArray, List.set_cons_zero, List.set_cons_succ]
          refine wpAnyIn_ready (rs := [1, 4]) (by kernel_rfl) (by simp) ?_
          refine AllReadyIn.cons (o := _) rfl (fun K hK => ?_) ?_
          · go_simp
            refine hK _ _ ?_
            clear hK K
            try simp only [List.getElem_toArray, List.getElem_cons_zero, List.getElem_cons_succ, Act.put, List.setIfInBounds_toArray, List.set_cons_zero, List.set_cons_succ]
            refine wpAnyIn_ready (rs := [4]) (by kernel_rfl) (by simp) ?_
            refine AllReadyIn.cons (o := _) rfl (fun K hK => ?_) ?_
            · go_simp
              refine hK _ _ ?_
              clear hK K
              try simp only [List.getElem_toArray, List.getElem_cons_zero, List.getElem_cons_succ, Act.put, List.setIfInBounds_toArray, List.set_cons_zero, List.set_cons_succ]
              refine wpAnyIn_ready (rs := [5]) (by kernel_rfl) (by simp) ?_
              refine AllReadyIn.cons (o := _) rfl (fun K hK => ?_) ?_
              · go_simp
                refine ⟨by simp [Fence.wide], (CallsIn.inRound l' (callsIn_wide.2 CC.out)).mono ?_⟩
                rintro e w8 ⟨⟨m1, m2, m3, m4, m5, m6⟩, rfl, hv8, hb8⟩
                have HV8 := Lib.hid hv8
                have HB8 := Lib.hid hb8
                have c8 : w8.cell? ⟨W.heap.size, 0, none⟩ = some (.func (.yield l) #[] #[]) := (hb8.cell (p := ⟨W.heap.size, 0, none⟩) (World.block_lt_of_cell? _ _ cy)).trans cy
                clear hv8 hb8
                simp only [Nd.val]
                refine hK _ _ ?_
                clear hK K
                try simp only [List.getElem_toArray, List.getElem_cons_zero, List.getElem_cons_succ, Act.put, List.setIfInBounds_toArray, List.set_cons_zero, List.set_cons_succ]
                refine wpAnyIn_ready (rs := [6]) (by kernel_rfl) (by simp) ?_
                refine AllReadyIn.cons (o := _) rfl (fun K hK => ?_) ?_
                · obtain ⟨fn, tmps, assign, body, hy, hR⟩ := HYY.out _ _ HB8.out HV8.out
                  dsimp only [encY, Nd.val] at hy
                  go_simp
                  refine ⟨by simp [Fence.wide], RoundIn.mono (F := Fence.wide.inRound l') hR ?_⟩
                  rintro e W3 ⟨C', hf', hbd', hc', hE⟩
                  obtain ⟨hT, hF⟩ := HFIN.out _ _ _ _ HB8.out HV8.out hf' hbd' hc'
                  have HT := Lib.hid hT
                  have HF := Lib.hid hF
                  clear hR hy hf' hbd' hc' hT hF c8 cy
                  rcases hE with ⟨rfl, hJ3⟩ | ⟨rfl, hJ3⟩
                  · have HG := Lib.hid (HT.out hJ3)
                    clear hJ3 HT HF
                    refine hK _ _ ?_
                    clear hK K
                    try simp only [List.getElem_toArray, List.getElem_cons_zero, List.getElem_cons_succ, Act.put, List.setIfInBounds_toArray, List.set_cons_zero, List.set_cons_succ]
                    refine wpAnyIn_ready (rs := [7]) (by kernel_rfl) (by simp) ?_
                    refine AllReadyIn.cons (o := _) rfl (fun K hK => ?_) AllReadyIn.nil
                    go_simp
                    refine hK _ _ ?_
                    clear hK K
                    try simp only [List.getElem_toArray, List.getElem_cons_zero, List.getElem_cons_succ, Act.put, List.setIfInBounds_toArray, List.set_cons_zero, List.set_cons_succ]
                    refine wpAnyIn_done (by kernel_rfl) ?_ _
                    gi_wp2_with fail
                    exact HG.out
                  · have HG := Lib.hid (HF.out hJ3)
                    clear hJ3 HT HF
                    refine hK _ _ ?_
                    clear hK K
                    try simp only [List.getElem_toArray, List.getElem_cons_zero, List.getElem_cons_succ, Act.put, List.setIfInBounds_toArray, List.set_cons_zero, List.set_cons_succ]
                    refine wpAnyIn_ready (rs := [7]) (by kernel_rfl) (by simp) ?_
                    refine AllReadyIn.cons (o := _) rfl (fun K hK => ?_) AllReadyIn.nil
                    go_simp
                    refine hK _ _ ?_
                    clear hK K
                    try simp only [List.getElem_toArray, List.getElem_cons_zero, List.getElem_cons_succ, Act.put, List.setIfInBounds_toArray, List.set_cons_zero, List.set_cons_succ]
                    refine wpAnyIn_done (by kernel_rfl) ?_ _
                    gi_wp2_with fail
                    exact ⟨HG.out.1, HG.out.2.1, rfl, HG.out.2.2.2⟩
                exact AllReadyIn.nil
              exact AllReadyIn.nil
            exact AllReadyIn.nil
          refine AllReadyIn.cons (o := _) rfl (fun K hK => ?_) ?_
          · go_simp
            refine hK _ _ ?_
            clear hK K
            try simp only [List.getElem_toArray, List.getElem_cons_zero, List.getElem_cons_succ, Act.put, List.setIfInBounds_toArray, List.set_cons_zero, List.set_cons_succ]
            refine wpAnyIn_ready (rs := [1, 5]) (by kernel_rfl) (by simp) ?_
            refine AllReadyIn.cons (o := _) rfl (fun K hK => ?_) ?_
            · go_simp
              refine hK _ _ ?_
              clear hK K
              try simp only [List.getElem_toArray, List.getElem_cons_zero, List.getElem_cons_succ, Act.put, List.setIfInBounds_toArray, List.set_cons_zero, List.set_cons_succ]
              refine wpAnyIn_ready (rs := [5]) (by kernel_rfl) (by simp) ?_
              refine AllReadyIn.cons (o := _) rfl (fun K hK => ?_) ?_
              · go_simp
                refine ⟨by simp [Fence.wide], (CallsIn.inRound l' (callsIn_wide.2 CC.out)).mono ?_⟩
                rintro e w8 ⟨⟨m1, m2, m3, m4, m5, m6⟩, rfl, hv8, hb8⟩
                have HV8 := Lib.hid hv8
                have HB8 := Lib.hid hb8
                have c8 : w8.cell? ⟨W.heap.size, 0, none⟩ = some (.func (.yield l) #[] #[]) := (hb8.cell (p := ⟨W.heap.size, 0, none⟩) (World.block_lt_of_cell? _ _ cy)).trans cy
                clear hv8 hb8
                simp only [Nd.val]
                refine hK _ _ ?_
                clear hK K
                try simp only [List.getElem_toArray, List.getElem_cons_zero, List.getElem_cons_succ, Act.put, List.setIfInBounds_toArray, List.set_cons_zero, List.set_cons_succ]
                refine wpAnyIn_ready (rs := [6]) (by kernel_rfl) (by simp) ?_
                refine AllReadyIn.cons (o := _) rfl (fun K hK => ?_) ?_
                · obtain ⟨fn, tmps, assign, body, hy, hR⟩ := HYY.out _ _ HB8.out HV8.out
                  dsimp only [encY, Nd.val] at hy
                  go_simp
                  refine ⟨by simp [Fence.wide], RoundIn.mono (F := Fence.wide.inRound l') hR ?_⟩
                  rintro e W3 ⟨C', hf', hbd', hc', hE⟩
                  obtain ⟨hT, hF⟩ := HFIN.out _ _ _ _ HB8.out HV8.out hf' hbd' hc'
                  have HT := Lib.hid hT
                  have HF := Lib.hid hF
                  clear hR hy hf' hbd' hc' hT hF c8 cy
                  rcases hE with ⟨rfl, hJ3⟩ | ⟨rfl, hJ3⟩
                  · have HG := Lib.hid (HT.out hJ3)
                    clear hJ3 HT HF
                    refine hK _ _ ?_
                    clear hK K
                    try simp only [List.getElem_toArray, List.getElem_cons_zero, List.getElem_cons_succ, Act.put, List.setIfInBounds_toArray, List.set_cons_zero, List.set_cons_succ]
                    refine wpAnyIn_ready (rs := [7]) (by kernel_rfl) (by simp) ?_
                    refine AllReadyIn.cons (o := _) rfl (fun K hK => ?_) AllReadyIn.nil
                    go_simp
                    refine hK _ _ ?_
                    clear hK K
                    try simp only [List.getElem_toArray, List.getElem_cons_zero, List.getElem_cons_succ, Act.put, List.setIfInBounds_toArray, List.set_cons_zero, List.set_cons_succ]
                    refine wpAnyIn_done (by kernel_rfl) ?_ _
                    gi_wp2_with fail
                    exact HG.out
                  · have HG := Lib.hid (HF.out hJ3)
                    clear hJ3 HT HF
                    refine hK _ _ ?_
                    clear hK K
                    try simp only [List.getElem_toArray, List.getElem_cons_zero, List.getElem_cons_succ, Act.put, List.setIfInBounds_toArray, List.set_cons_zero, List.set_cons_succ]
                    refine wpAnyIn_ready (rs := [7]) (by kernel_rfl) (by simp) ?_
                    refine AllReadyIn.cons (o := _) rfl (fun K hK => ?_) AllReadyIn.nil
                    go_simp
                    refine hK _ _ ?_
                    clear hK K
                    try simp only [List.getElem_toArray, List.getElem_cons_zero, List.getElem_cons_succ, Act.put, List.setIfInBounds_toArray, List.set_cons_zero, List.set_cons_succ]
                    refine wpAnyIn_done (by kernel_rfl) ?_ _
                    gi_wp2_with fail
                    exact ⟨HG.out.1, HG.out.2.1, rfl, HG.out.2.2.2⟩
                exact AllReadyIn.nil
              exact AllReadyIn.nil
            refine AllReadyIn.cons (o := _) rfl (fun K hK => ?_) ?_
            · go_simp
              refine ⟨by simp [Fence.wide], (CallsIn.inRound l' (callsIn_wide.2 CC.out)).mono ?_⟩
              rintro e w8 ⟨⟨m1, m2, m3, m4, m5, m6⟩, rfl, hv8, hb8⟩
              have HV8 := Lib.hid hv8
              have HB8 := Lib.hid hb8
              have c8 : w8.cell? ⟨W.heap.size, 0, none⟩ = some (.func (.yield l) #[] #[]) := (hb8.cell (p := ⟨W.heap.size, 0, none⟩) (World.block_lt_of_cell? _ _ cy)).trans cy
              clear hv8 hb8
              simp only [Nd.val]
              refine hK _ _ ?_
              clear hK K
              try simp only [List.getElem_toArray, List.getElem_cons_zero, List.getElem_cons_succ, Act.put, List.setIfInBounds_toArray, List.set_cons_zero, List.set_cons_succ]
              refine wpAnyIn_ready (rs := [1]) (by kernel_rfl) (by simp) ?_
              refine AllReadyIn.cons (o := _) rfl (fun K hK => ?_) ?_
              · go_simp
                refine hK _ _ ?_
                clear hK K
                try simp only [List.getElem_toArray, List.getElem_cons_zero, List.getElem_cons_succ, Act.put, List.setIfInBounds_toArray, List.set_cons_zero, List.set_cons_succ]
                refine wpAnyIn_ready (rs := [6]) (by kernel_rfl) (by simp) ?_
                refine AllReadyIn.cons (o := _) rfl (fun K hK => ?_) ?_
                · obtain ⟨fn, tmps, assign, body, hy, hR⟩ := HYY.out _ _ HB8.out HV8.out
                  dsimp only [encY, Nd.val] at hy
                  go_simp
                  refine ⟨by simp [Fence.wide], RoundIn.mono (F := Fence.wide.inRound l') hR ?_⟩
                  rintro e W3 ⟨C', hf', hbd', hc', hE⟩
                  obtain ⟨hT, hF⟩ := HFIN.out _ _ _ _ HB8.out HV8.out hf' hbd' hc'
                  have HT := Lib.hid hT
                  have HF := Lib.hid hF
                  clear hR hy hf' hbd' hc' hT hF c8 cy
                  rcases hE with ⟨rfl, hJ3⟩ | ⟨rfl, hJ3⟩
                  · have HG := Lib.hid (HT.out hJ3)
                    clear hJ3 HT HF
                    refine hK _ _ ?_
                    clear hK K
                    try simp only [List.getElem_toArray, List.getElem_cons_zero, List.getElem_cons_succ, Act.put, List.setIfInBounds_toArray, List.set_cons_zero, List.set_cons_succ]
                    refine wpAnyIn_ready (rs := [7]) (by kernel_rfl) (by simp) ?_
                    refine AllReadyIn.cons (o := _) rfl (fun K hK => ?_) AllReadyIn.nil
                    go_simp
                    refine hK _ _ ?_
                    clear hK K
                    try simp only [List.getElem_toArray, List.getElem_cons_zero, List.getElem_cons_succ, Act.put, List.setIfInBounds_toArray, List.set_cons_zero, List.set_cons_succ]
                    refine wpAnyIn_done (by kernel_rfl) ?_ _
                    gi_wp2_with fail
                    exact HG.out
                  · have HG := Lib.hid (HF.out hJ3)
                    clear hJ3 HT HF
                    refine hK _ _ ?_
                    clear hK K
                    try simp only [List.getElem_toArray, List.getElem_cons_zero, List.getElem_cons_succ, Act.put, List.setIfInBounds_toArray, List.set_cons_zero, List.set_cons_succ]
                    refine wpAnyIn_ready (rs := [7]) (by kernel_rfl) (by simp) ?_
                    refine AllReadyIn.cons (o := _) rfl (fun K hK => ?_) AllReadyIn.nil
                    go_simp
                    refine hK _ _ ?_
                    clear hK K
                    try simp only [List.getElem_toArray, List.getElem_cons_zero, List.getElem_cons_succ, Act.put, List.setIfInBounds_toArray, List.set_cons_zero, List.set_cons_succ]
                    refine wpAnyIn_done (by kernel_rfl) ?_ _
                    gi_wp2_with fail
                    exact ⟨HG.out.1, HG.out.2.1, rfl, HG.out.2.2.2⟩
                exact AllReadyIn.nil
              exact AllReadyIn.nil
            exact AllReadyIn.nil
          exact AllReadyIn.nil
        exact AllReadyIn.nil
      exact AllReadyIn.nil
    refine AllReadyIn.cons (o := _) rfl (fun K hK => ?_) ?_
    · go_simp
      refine hK _ _ ?_
      clear hK K
      try simp only [List.getElem_toArray, List.getElem_cons_zero, List.getElem_cons_succ, Act.put, List.setIfInBounds_toArray, List.set_cons_zero, List.set_cons_succ]
      refine wpAnyIn_ready (rs := [0, 2]) (by kernel_rfl) (by simp) ?_
      refine AllReadyIn.cons (o := _) rfl (fun K hK => ?_) ?_
      · go_simp
        refine hK _ _ ?_
        clear hK K
        try simp only [List.getElem_toArray, List.getElem_cons_zero, List.getElem_cons_succ, Act.put, List.setIfInBounds_toArray, List.set_cons_zero, List.set_cons_succ]
        refine wpAnyIn_ready (rs := [2]) (by kernel_rfl) (by simp) ?_
        refine AllReadyIn.cons (o := _) rfl (fun K hK => ?_) ?_
        · go_simp
          refine hK _ _ ?_
          clear hK K
          try simp only [List.getElem_toArray, List.getElem_cons_zero, List.getElem_cons_succ, Act.put, List.setIfInBounds_toArray, List.set_cons_zero, List.set_cons_succ]
          refine wpAnyIn_ready (rs := [3]) (by kernel_rfl) (by simp) ?_
          refine AllReadyIn.cons (o := _) rfl (fun K hK => ?_) ?_
          · go_simp
            refine hK _ _ ?_
            clear hK K
            try simp only [List.getElem_toArray, List.getElem_cons_zero, List.getElem_cons_succ, Act.put, List.setIfInBounds_toArray, List.set_cons_zero, List.set_cons_succ]
            refine wpAnyIn_ready (rs := [4]) (by kernel_rfl) (by simp) ?_
            refine AllReadyIn.cons (o := _) rfl (fun K hK => ?_) ?_
            · go_simp
              refine hK _ _ ?_
              clear hK K
              try simp only [List.getElem_toArray, List.getElem_cons_zero, List.getElem_cons_succ, Act.put, List.setIfInBounds_toArray, List.set_cons_zero, List.set_cons_succ]
              refine wpAnyIn_ready (rs := [5]) (by kernel_rfl) (by simp) ?_
              refine AllReadyIn.cons (o := _) rfl (fun K hK => ?_) ?_
              · go_simp
                refine ⟨by simp [Fence.wide], (CallsIn.inRound l' (callsIn_wide.2 CC.out)).mono ?_⟩
                rintro e w8 ⟨⟨m1, m2, m3, m4, m5, m6⟩, rfl, hv8, hb8⟩
                have HV8 := Lib.hid hv8
                have HB8 := Lib.hid hb8
                have c8 : w8.cell? ⟨W.heap.size, 0, none⟩ = some (.func (.yield l) #[] #[]) := (hb8.cell (p := ⟨W.heap.size, 0, none⟩) (World.block_lt_of_cell? _ _ cy)).trans cy
                clear hv8 hb8
                simp only [Nd.val]
                refine hK _ _ ?_
                clear hK K
                try simp only [List.getElem_toArray, List.getElem_cons_zero, List.getElem_cons_succ, Act.put, List.setIfInBounds_toArray, List.set_cons_zero, List.set_cons_succ]
                refine wpAnyIn_ready (rs := [6]) (by kernel_rfl) (by simp) ?_
                refine AllReadyIn.cons (o := _) rfl (fun K hK => ?_) ?_
                · obtain ⟨fn, tmps, assign, body, hy, hR⟩ := HYY.out _ _ HB8.out HV8.out
                  dsimp only [encY, Nd.val] at hy
                  go_simp
                  refine ⟨by simp [Fence.wide], RoundIn.mono (F := Fence.wide.inRound l') hR ?_⟩
                  rintro e W3 ⟨C', hf', hbd', hc', hE⟩
                  obtain ⟨hT, hF⟩ := HFIN.out _ _ _ _ HB8.out HV8.out hf' hbd' hc'
                  have HT := Lib.hid hT
                  have HF := Lib.hid hF
                  clear hR hy hf' hbd' hc' hT hF c8 cy
                  rcases hE with ⟨rfl, hJ3⟩ | ⟨rfl, hJ3⟩
                  · have HG := Lib.hid (HT.out hJ3)
                    clear hJ3 HT HF
                    refine hK _ _ ?_
                    clear hK K
                    try simp only [List.getElem_toArray, List.getElem_cons_zero, List.getElem_cons_succ, Act.put, List.setIfInBounds_toArray, List.set_cons_zero, List.set_cons_succ]
                    refine wpAnyIn_ready (rs := [7]) (by kernel_rfl) (by simp) ?_
                    refine AllReadyIn.cons (o := _) rfl (fun K hK => ?_) AllReadyIn.nil
                    go_simp
                    refine hK _ _ ?_
                    clear hK K
                    try simp only [List.getElem_toArray, List.getElem_cons_zero, List.getElem_cons_succ, Act.put, List.setIfInBounds_toArray, List.set_cons_zero, List.set_cons_succ]
                    refine wpAnyIn_done (by kernel_rfl) ?_ _
                    gi_wp2_with fail
                    exact HG.out
                  · have HG := Lib.hid (HF.out hJ3)
                    clear hJ3 HT HF
                    refine hK _ _ ?_
                    clear hK K
                    try simp only [List.getElem_toArray, List.getElem_cons_zero, List.getElem_cons_succ, Act.put, List.setIfInBounds_toArray, List.set_cons_zero, List.set_cons_succ]
                    refine wpAnyIn_ready (rs := [7]) (by kernel_rfl) (by simp) ?_
                    refine AllReadyIn.cons (o := _) rfl (fun K hK => ?_) AllReadyIn.nil
                    go_simp
                    refine hK _ _ ?_
                    clear hK K
                    try simp only [List.getElem_toArray, List.getElem_cons_zero, List.getElem_cons_succ, Act.put, List.setIfInBounds_toArray, List.set_cons_zero, List.set_cons_succ]
                    refine wpAnyIn_done (by kernel_rfl) ?_ _
                    gi_wp2_with fail
                    exact ⟨HG.out.1, HG.out.2.1, rfl, HG.out.2.2.2⟩
                exact AllReadyIn.nil
              exact AllReadyIn.nil
            exact AllReadyIn.nil
          exact AllReadyIn.nil
        exact AllReadyIn.nil
      refine AllReadyIn.cons (o := _) rfl (fun K hK => ?_) ?_
      · go_simp
        refine hK _ _ ?_
        clear hK K
        try simp only [List.getElem_toArray, List.getElem_cons_zero, List.getElem_cons_succ, Act.put, List.setIfInBounds_toArray, List.set_cons_zero, List.set_cons_succ]
        refine wpAnyIn_ready (rs := [0, 3]) (by kernel_rfl) (by simp) ?_
        refine AllReadyIn.cons (o := _) rfl (fun K hK => ?_) ?_
        · go_simp
          refine hK _ _ ?_
          clear hK K
          try simp only [List.getElem_toArray, List.getElem_cons_zero, List.getElem_cons_succ, Act.put, List.setIfInBounds_toArray, List.set_cons_zero, List.set_cons_succ]
          refine wpAnyIn_ready (rs := [3]) (by kernel_rfl) (by simp) ?_
          refine AllReadyIn.cons (o := _) rfl (fun K hK => ?_) ?_
          · go_simp
            refine hK _ _ ?_
            clear hK K
            try simp only [List.getElem_toArray, List.getElem_cons_zero, List.getElem_cons_succ, Act.put, List.setIfInBounds_toArray, List.set_cons_zero, List.set_cons_succ]
            refine wpAnyIn_ready (rs := [4]) (by kernel_rfl) (by simp) ?_
            refine AllReadyIn.cons (o := _) rfl (fun K hK => ?_) ?_
            · go_simp
              refine hK _ _ ?_
              clear hK K
              try simp only [List.getElem_toArray, List.getElem_cons_zero, List.getElem_cons_succ, Act.put, List.setIfInBounds_toArray, List.set_cons_zero, List.set_cons_succ]
              refine wpAnyIn_ready (rs := [5]) (by kernel_rfl) (by simp) ?_
              refine AllReadyIn.cons (o := _) rfl (fun K hK => ?_) ?_
              · go_simp
                refine ⟨by simp [Fence.wide], (CallsIn.inRound l' (callsIn_wide.2 CC.out)).mono ?_⟩
                rintro e w8 ⟨⟨m1, m2, m3, m4, m5, m6⟩, rfl, hv8, hb8⟩
                have HV8 := Lib.hid hv8
                have HB8 := Lib.hid hb8
                have c8 : w8.cell? ⟨W.heap.size, 0, none⟩ = some (.func (.yield l) #[] #[]) := (hb8.cell (p := ⟨W.heap.size, 0, none⟩) (World.block_lt_of_cell? _ _ cy)).trans cy
                clear hv8 hb8
                simp only [Nd.val]
                refine hK _ _ ?_
                clear hK K
                try simp only [List.getElem_toArray, List.getElem_cons_zero, List.getElem_cons_succ, Act.put, List.setIfInBounds_toArray, List.set_cons_zero, List.set_cons_succ]
                refine wpAnyIn_ready (rs := [6]) (by kernel_rfl) (by simp) ?_
                refine AllReadyIn.cons (o := _) rfl (fun K hK => ?_) ?_
                · obtain ⟨fn, tmps, assign, body, hy, hR⟩ := HYY.out _ _ HB8.out HV8.out
                  dsimp only [encY, Nd.val] at hy
                  go_simp
                  refine ⟨by simp [Fence.wide], RoundIn.mono (F := Fence.wide.inRound l') hR ?_⟩
                  rintro e W3 ⟨C', hf', hbd', hc', hE⟩
                  obtain ⟨hT, hF⟩ := HFIN.out _ _ _ _ HB8.out HV8.out hf' hbd' hc'
                  have HT := Lib.hid hT
                  have HF := Lib.hid hF
                  clear hR hy hf' hbd' hc' hT hF c8 cy
                  rcases hE with ⟨rfl, hJ3⟩ | ⟨rfl, hJ3⟩
                  · have HG := Lib.hid (HT.out hJ3)
                    clear hJ3 HT HF
                    refine hK _ _ ?_
                    clear hK K
                    try simp only [List.getElem_toArray, List.getElem_cons_zero, List.getElem_cons_succ, Act.put, List.setIfInBounds_toArray, List.set_cons_zero, List.set_cons_succ]
                    refine wpAnyIn_ready (rs := [7]) (by kernel_rfl) (by simp) ?_
                    refine AllReadyIn.cons (o := _) rfl (fun K hK => ?_) AllReadyIn.nil
                    go_simp
                    refine hK _ _ ?_
                    clear hK K
                    try simp only [List.getElem_toArray, List.getElem_cons_zero, List.getElem_cons_succ, Act.put, List.setIfInBounds_toArray, List.set_cons_zero, List.set_cons_succ]
                    refine wpAnyIn_done (by kernel_rfl) ?_ _
                    gi_wp2_with fail
                    exact HG.out
                  · have HG := Lib.hid (HF.out hJ3)
                    clear hJ3 HT HF
                    refine hK _ _ ?_
                    clear hK K
                    try simp only [List.getElem_toArray, List.getElem_cons_zero, List.getElem_cons_succ, Act.put, List.setIfInBounds_toArray, List.set_cons_zero, List.set_cons_succ]
                    refine wpAnyIn_ready (rs := [7]) (by kernel_rfl) (by simp) ?_
                    refine AllReadyIn.cons (o := _) rfl (fun K hK => ?_) AllReadyIn.nil
                    go_simp
                    refine hK _ _ ?_
                    clear hK K
                    try simp only [List.getElem_toArray, List.getElem_cons_zero, List.getElem_cons_succ, Act.put, List.setIfInBounds_toArray, List.set_cons_zero, List.set_cons_succ]
                    refine wpAnyIn_done (by kernel_rfl) ?_ _
                    gi_wp2_with fail
                    exact ⟨HG.out.1, HG.out.2.1, rfl, HG.out.2.2.2⟩
                exact AllReadyIn.nil
              exact AllReadyIn.nil
            exact AllReadyIn.nil
          exact AllReadyIn.nil
        refine AllReadyIn.cons (o := _) rfl (fun K hK => ?_) ?_
        · go_simp
          refine hK _ _ ?_
          clear hK K
          try simp only [List.getElem_toArray, List.getElem_cons_zero, List.getElem_cons_succ, Act.put, List.setIfInBounds_toArray, List.set_cons_zero, List.set_cons_succ]
          refine wpAnyIn_ready (rs := [0, 4]) (by kernel_rfl) (by simp) ?_
          refine AllReadyIn.cons (o := _) rfl (fun K hK => ?_) ?_
          · go_simp
            refine hK _ _ ?_
            clear hK K
            try simp only [List.getElem_toArray, List.getElem_cons_zero, List.getElem_cons_succ, Act.put, List.setIfInBounds_toArray, List.set_cons_zero, List.set_cons_succ]
            refine wpAnyIn_ready (rs := [4]) (by kernel_rfl) (by simp) ?_
            refine AllReadyIn.cons (o := _) rfl (fun K hK => ?_) ?_
            · go_simp
              refine hK _ _ ?_
              clear hK K
              try simp only [List.getElem_toArray, List.getElem_cons_zero, List.getElem_cons_succ, Act.put, List.setIfInBounds_toArray, List.set_cons_zero, List.set_cons_succ]
              refine wpAnyIn_ready (rs := [5]) (by kernel_rfl) (by simp) ?_
              refine AllReadyIn.cons (o := _) rfl (fun K hK => ?_) ?_
              · go_simp
                refine ⟨by simp [Fence.wide], (CallsIn.inRound l' (callsIn_wide.2 CC.out)).mono ?_⟩
                rintro e w8 ⟨⟨m1, m2, m3, m4, m5, m6⟩, rfl, hv8, hb8⟩
                have HV8 := Lib.hid hv8
                have HB8 := Lib.hid hb8
                have c8 : w8.cell? ⟨W.heap.size, 0, none⟩ = some (.func (.yield l) #[] #[]) := (hb8.cell (p := ⟨W.heap.size, 0, none⟩) (World.block_lt_of_cell? _ _ cy)).trans cy
                clear hv8 hb8
                simp only [Nd.val]
                refine hK _ _ ?_
                clear hK K
                try simp only [List.getElem_toArray, List.getElem_cons_zero, List.getElem_cons_succ, Act.put, List.setIfInBounds_toArray, List.set_cons_zero, List.set_cons_succ]
                refine wpAnyIn_ready (rs := [6]) (by kernel_rfl) (by simp) ?_
                refine AllReadyIn.cons (o := _) rfl (fun K hK => ?_) ?_
                · obtain ⟨fn, tmps, assign, body, hy, hR⟩ := HYY.out _ _ HB8.out HV8.out
                  dsimp only [encY, Nd.val] at hy
                  go_simp
                  refine ⟨by simp [Fence.wide], RoundIn.mono (F := Fence.wide.inRound l') hR ?_⟩
                  rintro e W3 ⟨C', hf', hbd', hc', hE⟩
                  obtain ⟨hT, hF⟩ := HFIN.out _ _ _ _ HB8.out HV8.out hf' hbd' hc'
                  have HT := Lib.hid hT
                  have HF := Lib.hid hF
                  clear hR hy hf' hbd' hc' hT hF c8 cy
                  rcases hE with ⟨rfl, hJ3⟩ | ⟨rfl, hJ3⟩
                  · have HG := Lib.hid (HT.out hJ3)
                    clear hJ3 HT HF
                    refine hK _ _ ?_
                    clear hK K
                    try simp only [List.getElem_toArray, List.getElem_cons_zero, List.getElem_cons_succ, Act.put, List.setIfInBounds_toArray, List.set_cons_zero, List.set_cons_succ]
                    refine wpAnyIn_ready (rs := [7]) (by kernel_rfl) (by simp) ?_
                    refine AllReadyIn.cons (o := _) rfl (fun K hK => ?_) AllReadyIn.nil
                    go_simp
                    refine hK _ _ ?_
                    clear hK K
                    try simp only [List.getElem_toArray, List.getElem_cons_zero, List.getElem_cons_succ, Act.put, List.setIfInBounds_toArray, List.set_cons_zero, List.set_cons_succ]
                    refine wpAnyIn_done (by kernel_rfl) ?_ _
                    gi_wp2_with fail
                    exact HG.out
                  · have HG := Lib.hid (HF.out hJ3)
                    clear hJ3 HT HF
                    refine hK _ _ ?_
                    clear hK K
                    try simp only [List.getElem_toArray, List.getElem_cons_zero, List.getElem_cons_succ, Act.put, List.setIfInBounds_toArray, List.set_cons_zero, List.set_cons_succ]
                    refine wpAnyIn_ready (rs := [7]) (by kernel_rfl) (by simp) ?_
                    refine AllReadyIn.cons (o := _) rfl (fun K hK => ?_) AllReadyIn.nil
                    go_simp
                    refine hK _ _ ?_
                    clear hK K
                    try simp only [List.getElem_toArray, List.getElem_cons_zero, List.getElem_cons_succ, Act.put, List.setIfInBounds_toArray, List.set_cons_zero, List.set_cons_succ]
                    refine wpAnyIn_done (by kernel_rfl) ?_ _
                    gi_wp2_with fail
                    exact ⟨HG.out.1, HG.out.2.1, rfl, HG.out.2.2.2⟩
                exact AllReadyIn.nil
              exact AllReadyIn.nil
            exact AllReadyIn.nil
          refine AllReadyIn.cons (o := _) rfl (fun K hK => ?_) ?_
          · go_simp
            refine hK _ _ ?_
            clear hK K
            try simp only [List.getElem_toArray, List.getElem_cons_zero, List.getElem_cons_succ, Act.put, List.setIfInBounds_toArray, List.set_cons_zero, List.set_cons_succ]
            refine wpAnyIn_ready (rs := [0, 5]) (by kernel_rfl) (by simp) ?_
            refine AllReadyIn.cons (o := _) rfl (fun K hK => ?_) ?_
            · go_simp
              refine hK _ _ ?_
              clear hK K
              try simp only [List.getElem_toArray, List.getElem_cons_zero, List.getElem_cons_succ, Act.put, List.setIfInBounds_toArray, List.set_cons_zero, List.set_cons_succ]
              refine wpAnyIn_ready (rs := [5]) (by kernel_rfl) (by simp) ?_
              refine AllReadyIn.cons (o := _) rfl (fun K hK => ?_) ?_
              · go_simp
                refine ⟨by simp [Fence.wide], (CallsIn.inRound l' (callsIn_wide.2 CC.out)).mono ?_⟩
                rintro e w8 ⟨⟨m1, m2, m3, m4, m5, m6⟩, rfl, hv8, hb8⟩
                have HV8 := Lib.hid hv8
                have HB8 := Lib.hid hb8
                have c8 : w8.cell? ⟨W.heap.size, 0, none⟩ = some (.func (.yield l) #[] #[]) := (hb8.cell (p := ⟨W.heap.size, 0, none⟩) (World.block_lt_of_cell? _ _ cy)).trans cy
                clear hv8 hb8
                simp only [Nd.val]
                refine hK _ _ ?_
                clear hK K
                try simp only [List.getElem_toArray, List.getElem_cons_zero, List.getElem_cons_succ, Act.put, List.setIfInBounds_toArray, List.set_cons_zero, List.set_cons_succ]
                refine wpAnyIn_ready (rs := [6]) (by kernel_rfl) (by simp) ?_
                refine AllReadyIn.cons (o := _) rfl (fun K hK => ?_) ?_
                · obtain ⟨fn, tmps, assign, body, hy, hR⟩ := HYY.out _ _ HB8.out HV8.out
                  dsimp only [encY, Nd.val] at hy
                  go_simp
                  refine ⟨by simp [Fence.wide], RoundIn.mono (F := Fence.wide.inRound l') hR ?_⟩
                  rintro e W3 ⟨C', hf', hbd', hc', hE⟩
                  obtain ⟨hT, hF⟩ := HFIN.out _ _ _ _ HB8.out HV8.out hf' hbd' hc'
                  have HT := Lib.hid hT
                  have HF := Lib.hid hF
                  clear hR hy hf' hbd' hc' hT hF c8 cy
                  rcases hE with ⟨rfl, hJ3⟩ | ⟨rfl, hJ3⟩
                  · have HG := Lib.hid (HT.out hJ3)
                    clear hJ3 HT HF
                    refine hK _ _ ?_
                    clear hK K
                    try simp only [List.getElem_toArray, List.getElem_cons_zero, List.getElem_cons_succ, Act.put, List.setIfInBounds_toArray, List.set_cons_zero, List.set_cons_succ]
                    refine wpAnyIn_ready (rs := [7]) (by kernel_rfl) (by simp) ?_
                    refine AllReadyIn.cons (o := _) rfl (fun K hK => ?_) AllReadyIn.nil
                    go_simp
                    refine hK _ _ ?_
                    clear hK K
                    try simp only [List.getElem_toArray, List.getElem_cons_zero, List.getElem_cons_succ, Act.put, List.setIfInBounds_toArray, List.set_cons_zero, List.set_cons_succ]
                    refine wpAnyIn_done (by kernel_rfl) ?_ _
                    gi_wp2_with fail
                    exact HG.out
                  · have HG := Lib.hid (HF.out hJ3)
                    clear hJ3 HT HF
                    refine hK _ _ ?_
                    clear hK K
                    try simp only [List.getElem_toArray, List.getElem_cons_zero, List.getElem_cons_succ, Act.put, List.setIfInBounds_toArray, List.set_cons_zero, List.set_cons_succ]
                    refine wpAnyIn_ready (rs := [7]) (by kernel_rfl) (by simp) ?_
                    refine AllReadyIn.cons (o := _) rfl (fun K hK => ?_) AllReadyIn.nil
                    go_simp
                    refine hK _ _ ?_
                    clear hK K
                    try simp only [List.getElem_toArray, List.getElem_cons_zero, List.getElem_cons_succ, Act.put, List.setIfInBounds_toArray, List.set_cons_zero, List.set_cons_succ]
                    refine wpAnyIn_done (by kernel_rfl) ?_ _
                    gi_wp2_with fail
                    exact ⟨HG.out.1, HG.out.2.1, rfl, HG.out.2.2.2⟩
                exact AllReadyIn.nil
              exact AllReadyIn.nil
            refine AllReadyIn.cons (o := _) rfl (fun K hK => ?_) ?_
            · go_simp
              refine ⟨by simp [Fence.wide], (CallsIn.inRound l' (callsIn_wide.2 CC.out)).mono ?_⟩
              rintro e w8 ⟨⟨m1, m2, m3, m4, m5, m6⟩, rfl, hv8, hb8⟩
              have HV8 := Lib.hid hv8
              have HB8 := Lib.hid hb8
              have c8 : w8.cell? ⟨W.heap.size, 0, none⟩ = some (.func (.yield l) #[] #[]) := (hb8.cell (p := ⟨W.heap.size, 0, none⟩) (World.block_lt_of_cell? _ _ cy)).trans cy
              clear hv8 hb8
              simp only [Nd.val]
              refine hK _ _ ?_
              clear hK K
              try simp only [List.getElem_toArray, List.getElem_cons_zero, List.getElem_cons_succ, Act.put, List.setIfInBounds_toArray, List.set_cons_zero, List.set_cons_succ]
              refine wpAnyIn_ready (rs := [0]) (by kernel_rfl) (by simp) ?_
              refine AllReadyIn.cons (o := _) rfl (fun K hK => ?_) ?_
              · go_simp
                refine hK _ _ ?_
                clear hK K
                try simp only [List.getElem_toArray, List.getElem_cons_zero, List.getElem_cons_succ, Act.put, List.setIfInBounds_toArray, List.set_cons_zero, List.set_cons_succ]
                refine wpAnyIn_ready (rs := [6]) (by kernel_rfl) (by simp) ?_
                refine AllReadyIn.cons (o := _) rfl (fun K hK => ?_) ?_
                · obtain ⟨fn, tmps, assign, body, hy, hR⟩ := HYY.out _ _ HB8.out HV8.out
                  dsimp only [encY, Nd.val] at hy
                  go_simp
                  refine ⟨by simp [Fence.wide], RoundIn.mono (F := Fence.wide.inRound l') hR ?_⟩
                  rintro e W3 ⟨C', hf', hbd', hc', hE⟩
                  obtain ⟨hT, hF⟩ := HFIN.out _ _ _ _ HB8.out HV8.out hf' hbd' hc'
                  have HT := Lib.hid hT
                  have HF := Lib.hid hF
                  clear hR hy hf' hbd' hc' hT hF c8 cy
                  rcases hE with ⟨rfl, hJ3⟩ | ⟨rfl, hJ3⟩
                  · have HG := Lib.hid (HT.out hJ3)
                    clear hJ3 HT HF
                    refine hK _ _ ?_
                    clear hK K
                    try simp only [List.getElem_toArray, List.getElem_cons_zero, List.getElem_cons_succ, Act.put, List.setIfInBounds_toArray, List.set_cons_zero, List.set_cons_succ]
                    refine wpAnyIn_ready (rs := [7]) (by kernel_rfl) (by simp) ?_
                    refine AllReadyIn.cons (o := _) rfl (fun K hK => ?_) AllReadyIn.nil
                    go_simp
                    refine hK _ _ ?_
                    clear hK K
                    try simp only [List.getElem_toArray, List.getElem_cons_zero, List.getElem_cons_succ, Act.put, List.setIfInBounds_toArray, List.set_cons_zero, List.set_cons_succ]
                    refine wpAnyIn_done (by kernel_rfl) ?_ _
                    gi_wp2_with fail
                    exact HG.out
                  · have HG := Lib.hid (HF.out hJ3)
                    clear hJ3 HT HF
                    refine hK _ _ ?_
                    clear hK K
                    try simp only [List.getElem_toArray, List.getElem_cons_zero, List.getElem_cons_succ, Act.put, List.setIfInBounds_toArray, List.set_cons_zero, List.set_cons_succ]
                    refine wpAnyIn_ready (rs := [7]) (by kernel_rfl) (by simp) ?_
                    refine AllReadyIn.cons (o := _) rfl (fun K hK => ?_) AllReadyIn.nil
                    go_simp
                    refine hK _ _ ?_
                    clear hK K
                    try simp only [List.getElem_toArray, List.getElem_cons_zero, List.getElem_cons_succ, Act.put, List.setIfInBounds_toArray, List.set_cons_zero, List.set_cons_succ]
                    refine wpAnyIn_done (by kernel_rfl) ?_ _
                    gi_wp2_with fail
                    exact ⟨HG.out.1, HG.out.2.1, rfl, HG.out.2.2.2⟩
                exact AllReadyIn.nil
              exact AllReadyIn.nil
            exact AllReadyIn.nil
          exact AllReadyIn.nil
        exact AllReadyIn.nil
      exact AllReadyIn.nil
    refine AllReadyIn.cons (o := _) rfl (fun K hK => ?_) ?_
    · go_simp
      refine hK _ _ ?_
      clear hK K
      try simp only [List.getElem_toArray, List.getElem_cons_zero, List.getElem_cons_succ, Act.put, List.setIfInBounds_toArray, List.set_cons_zero, List.set_cons_succ]
      refine wpAnyIn_ready (rs := [0, 1, 3]) (by kernel_rfl) (by simp) ?_
      refine AllReadyIn.cons (o := _) rfl (fun K hK => ?_) ?_
      · go_simp
        refine hK _ _ ?_
        clear hK K
        try simp only [List.getElem_toArray, List.getElem_cons_zero, List.getElem_cons_succ, Act.put, List.setIfInBounds_toArray, List.set_cons_zero, List.set_cons_succ]
        refine wpAnyIn_ready (rs := [1, 3]) (by kernel_rfl) (by simp) ?_
        refine AllReadyIn.cons (o := _) rfl (fun K hK => ?_) ?_
        · go_simp
          refine hK _ _ ?_
          clear hK K
          try simp only [List.getElem_toArray, List.getElem_cons_zero, List.getElem_cons_succ, Act.put, List.setIfInBounds_toArray, List.set_cons_zero, List.set_cons_succ]
          refine wpAnyIn_ready (rs := [3]) (by kernel_rfl) (by simp) ?_
          refine AllReadyIn.cons (o := _) rfl (fun K hK => ?_) ?_
          · go_simp
            refine hK _ _ ?_
            clear hK K
            try simp only [List.getElem_toArray, List.getElem_cons_zero, List.getElem_cons_succ, Act.put, List.setIfInBounds_toArray, List.set_cons_zero, List.set_cons_succ]
            refine wpAnyIn_ready (rs := [4]) (by kernel_rfl) (by simp) ?_
            refine AllReadyIn.cons (o := _) rfl (fun K hK => ?_) ?_
            · go_simp
              refine hK _ _ ?_
              clear hK K
              try simp only [List.getElem_toArray, List.getElem_cons_zero, List.getElem_cons_succ, Act.put, List.setIfInBounds_toArray, List.set_cons_zero, List.set_cons_succ]
              refine wpAnyIn_ready (rs := [5]) (by kernel_rfl) (by simp) ?_
              refine AllReadyIn.cons (o := _) rfl (fun K hK => ?_) ?_
              · go_simp
                refine ⟨by simp [Fence.wide], (CallsIn.inRound l' (callsIn_wide.2 CC.out)).mono ?_⟩
                rintro e w8 ⟨⟨m1, m2, m3, m4, m5, m6⟩, rfl, hv8, hb8⟩
                have HV8 := Lib.hid hv8
                have HB8 := Lib.hid hb8
                have c8 : w8.cell? ⟨W.heap.size, 0, none⟩ = some (.func (.yield l) #[] #[]) := (hb8.cell (p := ⟨W.heap.size, 0, none⟩) (World.block_lt_of_cell? _ _ cy)).trans cy
                clear hv8 hb8
                simp only [Nd.val]
                refine hK _ _ ?_
                clear hK K
                try simp only [List.getElem_toArray, List.getElem_cons_zero, List.getElem_cons_succ, Act.put, List.setIfInBounds_toArray, List.set_cons_zero, List.set_cons_succ]
                refine wpAnyIn_ready (rs := [6]) (by kernel_rfl) (by simp) ?_
                refine AllReadyIn.cons (o := _) rfl (fun K hK => ?_) ?_
                · obtain ⟨fn, tmps, assign, body, hy, hR⟩ := HYY.out _ _ HB8.out HV8.out
                  dsimp only [encY, Nd.val] at hy
                  go_simp
                  refine ⟨by simp [Fence.wide], RoundIn.mono (F := Fence.wide.inRound l') hR ?_⟩
                  rintro e W3 ⟨C', hf', hbd', hc', hE⟩
                  obtain ⟨hT, hF⟩ := HFIN.out _ _ _ _ HB8.out HV8.out hf' hbd' hc'
                  have HT := Lib.hid hT
                  have HF := Lib.hid hF
                  clear hR hy hf' hbd' hc' hT hF c8 cy
                  rcases hE with ⟨rfl, hJ3⟩ | ⟨rfl, hJ3⟩
                  · have HG := Lib.hid (HT.out hJ3)
                    clear hJ3 HT HF
                    refine hK _ _ ?_
                    clear hK K
                    try simp only [List.getElem_toArray, List.getElem_cons_zero, List.getElem_cons_succ, Act.put, List.setIfInBounds_toArray, List.set_cons_zero, List.set_cons_succ]
                    refine wpAnyIn_ready (rs := [7]) (by kernel_rfl) (by simp) ?_
                    refine AllReadyIn.cons (o := _) rfl (fun K hK => ?_) AllReadyIn.nil
                    go_simp
                    refine hK _ _ ?_
                    clear hK K
                    try simp only [List.getElem_toArray, List.getElem_cons_zero, List.getElem_cons_succ, Act.put, List.setIfInBounds_toArray, List.set_cons_zero, List.set_cons_succ]
                    refine wpAnyIn_done (by kernel_rfl) ?_ _
                    gi_wp2_with fail
                    exact HG.out
                  · have HG := Lib.hid (HF.out hJ3)
                    clear hJ3 HT HF
                    refine hK _ _ ?_
                    clear hK K
                    try simp only [List.getElem_toArray, List.getElem_cons_zero, List.getElem_cons_succ, Act.put, List.setIfInBounds_toArray, List.set_cons_zero, List.set_cons_succ]
                    refine wpAnyIn_ready (rs := [7]) (by kernel_rfl) (by simp) ?_
                    refine AllReadyIn.cons (o := _) rfl (fun K hK => ?_) AllReadyIn.nil
                    go_simp
                    refine hK _ _ ?_
                    clear hK K
                    try simp only [List.getElem_toArray, List.getElem_cons_zero, List.getElem_cons_succ, Act.put, List.setIfInBounds_toArray, List.set_cons_zero, List.set_cons_succ]
                    refine wpAnyIn_done (by kernel_rfl) ?_ _
                    gi_wp2_with fail
                    exact ⟨HG.out.1, HG.out.2.1, rfl, HG.out.2.2.2⟩
                exact AllReadyIn.nil
              exact AllReadyIn.nil
            exact AllReadyIn.nil
          exact AllReadyIn.nil
        refine AllReadyIn.cons (o := _) rfl (fun K hK => ?_) ?_
        · go_simp
          refine hK _ _ ?_
          clear hK K
          try simp only [List.getElem_toArray, List.getElem_cons_zero, List.getElem_cons_succ, Act.put, List.setIfInBounds_toArray, List.set_cons_zero, List.set_cons_succ]
          refine wpAnyIn_ready (rs := [1, 4]) (by kernel_rfl) (by simp) ?_
          refine AllReadyIn.cons (o := _) rfl (fun K hK => ?_) ?_
          · go_simp
            refine hK _ _ ?_
            clear hK K
            try simp only [List.getElem_toArray, List.getElem_cons_zero, List.getElem_cons_succ, Act.put, List.setIfInBounds_toArray, List.set_cons_zero, List.set_cons_succ]
            refine wpAnyIn_ready (rs := [4]) (by kernel_rfl) (by simp) ?_
            refine AllReadyIn.cons (o := _) rfl (fun K hK => ?_) ?_
            · go_simp
              refine hK _ _ ?_
              clear hK K
              try simp only [List.getElem_toArray, List.getElem_cons_zero, List.getElem_cons_succ, Act.put, List.setIfInBounds_toArray, List.set_cons_zero, List.set_cons_succ]
              refine wpAnyIn_ready (rs := [5]) (by kernel_rfl) (by simp) ?_
              refine AllReadyIn.cons (o := _) rfl (fun K hK => ?_) ?_
              · go_simp
                refine ⟨by simp [Fence.wide], (CallsIn.inRound l' (callsIn_wide.2 CC.out)).mono ?_⟩
                rintro e w8 ⟨⟨m1, m2, m3, m4, m5, m6⟩, rfl, hv8, hb8⟩
                have HV8 := Lib.hid hv8
                have HB8 := Lib.hid hb8
                have c8 : w8.cell? ⟨W.heap.size, 0, none⟩ = some (.func (.yield l) #[] #[]) := (hb8.cell (p := ⟨W.heap.size, 0, none⟩) (World.block_lt_of_cell? _ _ cy)).trans cy
                clear hv8 hb8
                simp only [Nd.val]
                refine hK _ _ ?_
                clear hK K
                try simp only [List.getElem_toArray, List.getElem_cons_zero, List.getElem_cons_succ, Act.put, List.setIfInBounds_toArray, List.set_cons_zero, List.set_cons_succ]
                refine wpAnyIn_ready (rs := [6]) (by kernel_rfl) (by simp) ?_
                refine AllReadyIn.cons (o := _) rfl (fun K hK => ?_) ?_
                · obtain ⟨fn, tmps, assign, body, hy, hR⟩ := HYY.out _ _ HB8.out HV8.out
                  dsimp only [encY, Nd.val] at hy
                  go_simp
                  refine ⟨by simp [Fence.wide], RoundIn.mono (F := Fence.wide.inRound l') hR ?_⟩
                  rintro e W3 ⟨C', hf', hbd', hc', hE⟩
                  obtain ⟨hT, hF⟩ := HFIN.out _ _ _ _ HB8.out HV8.out hf' hbd' hc'
                  have HT := Lib.hid hT
                  have HF := Lib.hid hF
                  clear hR hy hf' hbd' hc' hT hF c8 cy
                  rcases hE with ⟨rfl, hJ3⟩ | ⟨rfl, hJ3⟩
                  · have HG := Lib.hid (HT.out hJ3)
                    clear hJ3 HT HF
                    refine hK _ _ ?_
                    clear hK K
                    try simp only [List.getElem_toArray, List.getElem_cons_zero, List.getElem_cons_succ, Act.put, List.setIfInBounds_toArray, List.set_cons_zero, List.set_cons_succ]
                    refine wpAnyIn_ready (rs := [7]) (by kernel_rfl) (by simp) ?_
                    refine AllReadyIn.cons (o := _) rfl (fun K hK => ?_) AllReadyIn.nil
                    go_simp
                    refine hK _ _ ?_
                    clear hK K
                    try simp only [List.getElem_toArray, List.getElem_cons_zero, List.getElem_cons_succ, Act.put, List.setIfInBounds_toArray, List.set_cons_zero, List.set_cons_succ]
                    refine wpAnyIn_done (by kernel_rfl) ?_ _
                    gi_wp2_with fail
                    exact HG.out
                  · have HG := Lib.hid (HF.out hJ3)
                    clear hJ3 HT HF
                    refine hK _ _ ?_
                    clear hK K
                    try simp only [List.getElem_toArray, List.getElem_cons_zero, List.getElem_cons_succ, Act.put, List.setIfInBounds_toArray, List.set_cons_zero, List.set_cons_succ]
                    refine wpAnyIn_ready (rs := [7]) (by kernel_rfl) (by simp) ?_
                    refine AllReadyIn.cons (o := _) rfl (fun K hK => ?_) AllReadyIn.nil
                    go_simp
                    refine hK _ _ ?_
                    clear hK K
                    try simp only [List.getElem_toArray, List.getElem_cons_zero, List.getElem_cons_succ, Act.put, List.setIfInBounds_toArray, List.set_cons_zero, List.set_cons_succ]
                    refine wpAnyIn_done (by kernel_rfl) ?_ _
                    gi_wp2_with fail
                    exact ⟨HG.out.1, HG.out.2.1, rfl, HG.out.2.2.2⟩
                exact AllReadyIn.nil
              exact AllReadyIn.nil
            exact AllReadyIn.nil
          refine AllReadyIn.cons (o := _) rfl (fun K hK => ?_) ?_
          · go_simp
            refine hK _ _ ?_
            clear hK K
            try simp only [List.getElem_toArray, List.getElem_cons_zero, List.getElem_cons_succ, Act.put, List.setIfInBounds_toArray, List.set_cons_zero, List.set_cons_succ]
            refine wpAnyIn_ready (rs := [1, 5]) (by kernel_rfl) (by simp) ?_
            refine AllReadyIn.cons (o := _) rfl (fun K hK => ?_) ?_
            · go_simp
              refine hK _ _ ?_
              clear hK K
              try simp only [List.getElem_toArray, List.getElem_cons_zero, List.getElem_cons_succ, Act.put, List.setIfInBounds_toArray, List.set_cons_zero, List.set_cons_succ]
              refine wpAnyIn_ready (rs := [5]) (by kernel_rfl) (by simp) ?_
              refine AllReadyIn.cons (o := _) rfl (fun K hK => ?_) ?_
              · go_simp
                refine ⟨by simp [Fence.wide], (CallsIn.inRound l' (callsIn_wide.2 CC.out)).mono ?_⟩
                rintro e w8 ⟨⟨m1, m2, m3, m4, m5, m6⟩, rfl, hv8, hb8⟩
                have HV8 := Lib.hid hv8
                have HB8 := Lib.hid hb8
                have c8 : w8.cell? ⟨W.heap.size, 0, none⟩ = some (.func (.yield l) #[] #[]) := (hb8.cell (p := ⟨W.heap.size, 0, none⟩) (World.block_lt_of_cell? _ _ cy)).trans cy
                clear hv8 hb8
                simp only [Nd.val]
                refine hK _ _ ?_
                clear hK K
                try simp only [List.getElem_toArray, List.getElem_cons_zero, List.getElem_cons_succ, Act.put, List.setIfInBounds_toArray, List.set_cons_zero, List.set_cons_succ]
                refine wpAnyIn_ready (rs := [6]) (by kernel_rfl) (by simp) ?_
                refine AllReadyIn.cons (o := _) rfl (fun K hK => ?_) ?_
                · obtain ⟨fn, tmps, assign, body, hy, hR⟩ := HYY.out _ _ HB8.out HV8.out
                  dsimp only [encY, Nd.val] at hy
                  go_simp
                  refine ⟨by simp [Fence.wide], RoundIn.mono (F := Fence.wide.inRound l') hR ?_⟩
                  rintro e W3 ⟨C', hf', hbd', hc', hE⟩
                  obtain ⟨hT, hF⟩ := HFIN.out _ _ _ _ HB8.out HV8.out hf' hbd' hc'
                  have HT := Lib.hid hT
                  have HF := Lib.hid hF
                  clear hR hy hf' hbd' hc' hT hF c8 cy
                  rcases hE with ⟨rfl, hJ3⟩ | ⟨rfl, hJ3⟩
                  · have HG := Lib.hid (HT.out hJ3)
                    clear hJ3 HT HF
                    refine hK _ _ ?_
                    clear hK K
                    try simp only [List.getElem_toArray, List.getElem_cons_zero, List.getElem_cons_succ, Act.put, List.setIfInBounds_toArray, List.set_cons_zero, List.set_cons_succ]
                    refine wpAnyIn_ready (rs := [7]) (by kernel_rfl) (by simp) ?_
                    refine AllReadyIn.cons (o := _) rfl (fun K hK => ?_) AllReadyIn.nil
                    go_simp
                    refine hK _ _ ?_
                    clear hK K
                    try simp only [List.getElem_toArray, List.getElem_cons_zero, List.getElem_cons_succ, Act.put, List.setIfInBounds_toArray, List.set_cons_zero, List.set_cons_succ]
                    refine wpAnyIn_done (by kernel_rfl) ?_ _
                    gi_wp2_with fail
                    exact HG.out
                  · have HG := Lib.hid (HF.out hJ3)
                    clear hJ3 HT HF
                    refine hK _ _ ?_
                    clear hK K
                    try simp only [List.getElem_toArray, List.getElem_cons_zero, List.getElem_cons_succ, Act.put, List.setIfInBounds_toArray, List.set_cons_zero, List.set_cons_succ]
                    refine wpAnyIn_ready (rs := [7]) (by kernel_rfl) (by simp) ?_
                    refine AllReadyIn.cons (o := _) rfl (fun K hK => ?_) AllReadyIn.nil
                    go_simp
                    refine hK _ _ ?_
                    clear hK K
                    try simp only [List.getElem_toArray, List.getElem_cons_zero, List.getElem_cons_succ, Act.put, List.setIfInBounds_toArray, List.set_cons_zero, List.set_cons_succ]
                    refine wpAnyIn_done (by kernel_rfl) ?_ _
                    gi_wp2_with fail
                    exact ⟨HG.out.1, HG.out.2.1, rfl, HG.out.2.2.2⟩
                exact AllReadyIn.nil
              exact AllReadyIn.nil
            refine AllReadyIn.cons (o := _) rfl (fun K hK => ?_) ?_
            · go_simp
              refine ⟨by simp [Fence.wide], (CallsIn.inRound l' (callsIn_wide.2 CC.out)).mono ?_⟩
              rintro e w8 ⟨⟨m1, m2, m3, m4, m5, m6⟩, rfl, hv8, hb8⟩
              have HV8 := Lib.hid hv8
              have HB8 := Lib.hid hb8
              have c8 : w8.cell? ⟨W.heap.size, 0, none⟩ = some (.func (.yield l) #[] #[]) := (hb8.cell (p := ⟨W.heap.size, 0, none⟩) (World.block_lt_of_cell? _ _ cy)).trans cy
              clear hv8 hb8
              simp only [Nd.val]
              refine hK _ _ ?_
              clear hK K
              try simp only [List.getElem_toArray, List.getElem_cons_zero, List.getElem_cons_succ, Act.put, List.setIfInBounds_toArray, List.set_cons_zero, List.set_cons_succ]
              refine wpAnyIn_ready (rs := [1]) (by kernel_rfl) (by simp) ?_
              refine AllReadyIn.cons (o := _) rfl (fun K hK => ?_) ?_
              · go_simp
                refine hK _ _ ?_
                clear hK K
                try simp only [List.getElem_toArray, List.getElem_cons_zero, List.getElem_cons_succ, Act.put, List.setIfInBounds_toArray, List.set_cons_zero, List.set_cons_succ]
                refine wpAnyIn_ready (rs := [6]) (by kernel_rfl) (by simp) ?_
                refine AllReadyIn.cons (o := _) rfl (fun K hK => ?_) ?_
                · obtain ⟨fn, tmps, assign, body, hy, hR⟩ := HYY.out _ _ HB8.out HV8.out
                  dsimp only [encY, Nd.val] at hy
                  go_simp
                  refine ⟨by simp [Fence.wide], RoundIn.mono (F := Fence.wide.inRound l') hR ?_⟩
                  rintro e W3 ⟨C', hf', hbd', hc', hE⟩
                  obtain ⟨hT, hF⟩ := HFIN.out _ _ _ _ HB8.out HV8.out hf' hbd' hc'
                  have HT := Lib.hid hT
                  have HF := Lib.hid hF
                  clear hR hy hf' hbd' hc' hT hF c8 cy
                  rcases hE with ⟨rfl, hJ3⟩ | ⟨rfl, hJ3⟩
                  · have HG := Lib.hid (HT.out hJ3)
                    clear hJ3 HT HF
                    refine hK _ _ ?_
                    clear hK K
                    try simp only [List.getElem_toArray, List.getElem_cons_zero, List.getElem_cons_succ, Act.put, List.setIfInBounds_toArray, List.set_cons_zero, List.set_cons_succ]
                    refine wpAnyIn_ready (rs := [7]) (by kernel_rfl) (by simp) ?_
                    refine AllReadyIn.cons (o := _) rfl (fun K hK => ?_) AllReadyIn.nil
                    go_simp
                    refine hK _ _ ?_
                    clear hK K
                    try simp only [List.getElem_toArray, List.getElem_cons_zero, List.getElem_cons_succ, Act.put, List.setIfInBounds_toArray, List.set_cons_zero, List.set_cons_succ]
                    refine wpAnyIn_done (by kernel_rfl) ?_ _
                    gi_wp2_with fail
                    exact HG.out
                  · have HG := Lib.hid (HF.out hJ3)
                    clear hJ3 HT HF
                    refine hK _ _ ?_
                    clear hK K
                    try simp only [List.getElem_toArray, List.getElem_cons_zero, List.getElem_cons_succ, Act.put, List.setIfInBounds_toArray, List.set_cons_zero, List.set_cons_succ]
                    refine wpAnyIn_ready (rs := [7]) (by kernel_rfl) (by simp) ?_
                    refine AllReadyIn.cons (o := _) rfl (fun K hK => ?_) AllReadyIn.nil
                    go_simp
                    refine hK _ _ ?_
                    clear hK K
                    try simp only [List.getElem_toArray, List.getElem_cons_zero, List.getElem_cons_succ, Act.put, List.setIfInBounds_toArray, List.set_cons_zero, List.set_cons_succ]
                    refine wpAnyIn_done (by kernel_rfl) ?_ _
                    gi_wp2_with fail
                    exact ⟨HG.out.1, HG.out.2.1, rfl, HG.out.2.2.2⟩
                exact AllReadyIn.nil
              exact AllReadyIn.nil
            exact AllReadyIn.nil
          exact AllReadyIn.nil
        exact AllReadyIn.nil
      refine AllReadyIn.cons (o := _) rfl (fun K hK => ?_) ?_
      · go_simp
        refine hK _ _ ?_
        clear hK K
        try simp only [List.getElem_toArray, List.getElem_cons_zero, List.getElem_cons_succ, Act.put, List.setIfInBounds_toArray, List.set_cons_zero, List.set_cons_succ]
        refine wpAnyIn_ready (rs := [0, 3]) (by kernel_rfl) (by simp) ?_
        refine AllReadyIn.cons (o := _) rfl (fun K hK => ?_) ?_
        · go_simp
          refine hK _ _ ?_
          clear hK K
          try simp only [List.getElem_toArray, List.getElem_cons_zero, List.getElem_cons_succ, Act.put, List.setIfInBounds_toArray, List.set_cons_zero, List.set_cons_succ]
          refine wpAnyIn_ready (rs := [3]) (by kernel_rfl) (by simp) ?_
          refine AllReadyIn.cons (o := _) rfl (fun K hK => ?_) ?_
          · go_simp
            refine hK _ _ ?_
            clear hK K
            try simp only [List.getElem_toArray, List.getElem_cons_zero, List.getElem_cons_succ, Act.put, List.setIfInBounds_toArray, List.set_cons_zero, List.set_cons_succ]
            refine wpAnyIn_ready (rs := [4]) (by kernel_rfl) (by simp) ?_
            refine AllReadyIn.cons (o := _) rfl (fun K hK => ?_) ?_
            · go_simp
              refine hK _ _ ?_
              clear hK K
              try simp only [List.getElem_toArray, List.getElem_cons_zero, List.getElem_cons_succ, Act.put, List.setIfInBounds_toArray, List.set_cons_zero, List.set_cons_succ]
              refine wpAnyIn_ready (rs := [5]) (by kernel_rfl) (by simp) ?_
              refine AllReadyIn.cons (o := _) rfl (fun K hK => ?_) ?_
              · go_simp
                refine ⟨by simp [Fence.wide], (CallsIn.inRound l' (callsIn_wide.2 CC.out)).mono ?_⟩
                rintro e w8 ⟨⟨m1, m2, m3, m4, m5, m6⟩, rfl, hv8, hb8⟩
                have HV8 := Lib.hid hv8
                have HB8 := Lib.hid hb8
                have c8 : w8.cell? ⟨W.heap.size, 0, none⟩ = some (.func (.yield l) #[] #[]) := (hb8.cell (p := ⟨W.heap.size, 0, none⟩) (World.block_lt_of_cell? _ _ cy)).trans cy
                clear hv8 hb8
                simp only [Nd.val]
                refine hK _ _ ?_
                clear hK K
                try simp only [List.getElem_toArray, List.getElem_cons_zero, List.getElem_cons_succ, Act.put, List.setIfInBounds_toArray, List.set_cons_zero, List.set_cons_succ]
                refine wpAnyIn_ready (rs := [6]) (by kernel_rfl) (by simp) ?_
                refine AllReadyIn.cons (o := _) rfl (fun K hK => ?_) ?_
                · obtain ⟨fn, tmps, assign, body, hy, hR⟩ := HYY.out _ _ HB8.out HV8.out
                  dsimp only [encY, Nd.val] at hy
                  go_simp
                  refine ⟨by simp [Fence.wide], RoundIn.mono (F := Fence.wide.inRound l') hR ?_⟩
                  rintro e W3 ⟨C', hf', hbd', hc', hE⟩
                  obtain ⟨hT, hF⟩ := HFIN.out _ _ _ _ HB8.out HV8.out hf' hbd' hc'
                  have HT := Lib.hid hT
                  have HF := Lib.hid hF
                  clear hR hy hf' hbd' hc' hT hF c8 cy
                  rcases hE with ⟨rfl, hJ3⟩ | ⟨rfl, hJ3⟩
                  · have HG := Lib.hid (HT.out hJ3)
                    clear hJ3 HT HF
                    refine hK _ _ ?_
                    clear hK K
                    try simp only [List.getElem_toArray, List.getElem_cons_zero, List.getElem_cons_succ, Act.put, List.setIfInBounds_toArray, List.set_cons_zero, List.set_cons_succ]
                    refine wpAnyIn_ready (rs := [7]) (by kernel_rfl) (by simp) ?_
                    refine AllReadyIn.cons (o := _) rfl (fun K hK => ?_) AllReadyIn.nil
                    go_simp
                    refine hK _ _ ?_
                    clear hK K
                    try simp only [List.getElem_toArray, List.getElem_cons_zero, List.getElem_cons_succ, Act.put, List.setIfInBounds_toArray, List.set_cons_zero, List.set_cons_succ]
                    refine wpAnyIn_done (by kernel_rfl) ?_ _
                    gi_wp2_with fail
                    exact HG.out
                  · have HG := Lib.hid (HF.out hJ3)
                    clear hJ3 HT HF
                    refine hK _ _ ?_
                    clear hK K
                    try simp only [List.getElem_toArray, List.getElem_cons_zero, List.getElem_cons_succ, Act.put, List.setIfInBounds_toArray, List.set_cons_zero, List.set_cons_succ]
                    refine wpAnyIn_ready (rs := [7]) (by kernel_rfl) (by simp) ?_
                    refine AllReadyIn.cons (o := _) rfl (fun K hK => ?_) AllReadyIn.nil
                    go_simp
                    refine hK _ _ ?_
                    clear hK K
                    try simp only [List.getElem_toArray, List.getElem_cons_zero, List.getElem_cons_succ, Act.put, List.setIfInBounds_toArray, List.set_cons_zero, List.set_cons_succ]
                    refine wpAnyIn_done (by kernel_rfl) ?_ _
                    gi_wp2_with fail
                    exact ⟨HG.out.1, HG.out.2.1, rfl, HG.out.2.2.2⟩
                exact AllReadyIn.nil
              exact AllReadyIn.nil
            exact AllReadyIn.nil
          exact AllReadyIn.nil
        refine AllReadyIn.cons (o := _) rfl (fun K hK => ?_) ?_
        · go_simp
          refine hK _ _ ?_
          clear hK K
          try simp only [List.getElem_toArray, List.getElem_cons_zero, List.getElem_cons_succ, Act.put, List.setIfInBounds_toArray, List.set_cons_zero, List.set_cons_succ]
          refine wpAnyIn_ready (rs := [0, 4]) (by kernel_rfl) (by simp) ?_
          refine AllReadyIn.cons (o := _) rfl (fun K hK => ?_) ?_
          · go_simp
            refine hK _ _ ?_
            clear hK K
            try simp only [List.getElem_toArray, List.getElem_cons_zero, List.getElem_cons_succ, Act.put, List.setIfInBounds_toArray, List.set_cons_zero, List.set_cons_succ]
            refine wpAnyIn_ready (rs := [4]) (by kernel_rfl) (by simp) ?_
            refine AllReadyIn.cons (o := _) rfl (fun K hK => ?_) ?_
            · go_simp
              refine hK _ _ ?_
              clear hK K
              try simp only [List.getElem_toArray, List.getElem_cons_zero, List.getElem_cons_succ, Act.put, List.setIfInBounds_toArray, List.set_cons_zero, List.set_cons_succ]
              refine wpAnyIn_ready (rs := [5]) (by kernel_rfl) (by simp) ?_
              refine AllReadyIn.cons (o := _) rfl (fun K hK => ?_) ?_
              · go_simp
                refine ⟨by simp [Fence.wide], (CallsIn.inRound l' (callsIn_wide.2 CC.out)).mono ?_⟩
                rintro e w8 ⟨⟨m1, m2, m3, m4, m5, m6⟩, rfl, hv8, hb8⟩
                have HV8 := Lib.hid hv8
                have HB8 := Lib.hid hb8
                have c8 : w8.cell? ⟨W.heap.size, 0, none⟩ = some (.func (.yield l) #[] #[]) := (hb8.cell (p := ⟨W.heap.size, 0, none⟩) (World.block_lt_of_cell? _ _ cy)).trans cy
                clear hv8 hb8
                simp only [Nd.val]
                refine hK _ _ ?_
                clear hK K
                try simp only [List.getElem_toArray, List.getElem_cons_zero, List.getElem_cons_succ, Act.put, List.setIfInBounds_toArray, List.set_cons_zero, List.set_cons_succ]
                refine wpAnyIn_ready (rs := [6]) (by kernel_rfl) (by simp) ?_
                refine AllReadyIn.cons (o := _) rfl (fun K hK => ?_) ?_
                · obtain ⟨fn, tmps, assign, body, hy, hR⟩ := HYY.out _ _ HB8.out HV8.out
                  dsimp only [encY, Nd.val] at hy
                  go_simp
                  refine ⟨by simp [Fence.wide], RoundIn.mono (F := Fence.wide.inRound l') hR ?_⟩
                  rintro e W3 ⟨C', hf', hbd', hc', hE⟩
                  obtain ⟨hT, hF⟩ := HFIN.out _ _ _ _ HB8.out HV8.out hf' hbd' hc'
                  have HT := Lib.hid hT
                  have HF := Lib.hid hF
                  clear hR hy hf' hbd' hc' hT hF c8 cy
                  rcases hE with ⟨rfl, hJ3⟩ | ⟨rfl, hJ3⟩
                  · have HG := Lib.hid (HT.out hJ3)
                    clear hJ3 HT HF
                    refine hK _ _ ?_
                    clear hK K
                    try simp only [List.getElem_toArray, List.getElem_cons_zero, List.getElem_cons_succ, Act.put, List.setIfInBounds_toArray, List.set_cons_zero, List.set_cons_succ]
                    refine wpAnyIn_ready (rs := [7]) (by kernel_rfl) (by simp) ?_
                    refine AllReadyIn.cons (o := _) rfl (fun K hK => ?_) AllReadyIn.nil
                    go_simp
                    refine hK _ _ ?_
                    clear hK K
                    try simp only [List.getElem_toArray, List.getElem_cons_zero, List.getElem_cons_succ, Act.put, List.setIfInBounds_toArray, List.set_cons_zero, List.set_cons_succ]
                    refine wpAnyIn_done (by kernel_rfl) ?_ _
                    gi_wp2_with fail
                    exact HG.out
                  · have HG := Lib.hid (HF.out hJ3)
                    clear hJ3 HT HF
                    refine hK _ _ ?_
                    clear hK K
                    try simp only [List.getElem_toArray, List.getElem_cons_zero, List.getElem_cons_succ, Act.put, List.setIfInBounds_toArray, List.set_cons_zero, List.set_cons_succ]
                    refine wpAnyIn_ready (rs := [7]) (by kernel_rfl) (by simp) ?_
                    refine AllReadyIn.cons (o := _) rfl (fun K hK => ?_) AllReadyIn.nil
                    go_simp
                    refine hK _ _ ?_
                    clear hK K
                    try simp only [List.getElem_toArray, List.getElem_cons_zero, List.getElem_cons_succ, Act.put, List.setIfInBounds_toArray, List.set_cons_zero, List.set_cons_succ]
                    refine wpAnyIn_done (by kernel_rfl) ?_ _
                    gi_wp2_with fail
                    exact ⟨HG.out.1, HG.out.2.1, rfl, HG.out.2.2.2⟩
                exact AllReadyIn.nil
              exact AllReadyIn.nil
            exact AllReadyIn.nil
          refine AllReadyIn.cons (o := _) rfl (fun K hK => ?_) ?_
          · go_simp
            refine hK _ _ ?_
            clear hK K
            try simp only [List.getElem_toArray, List.getElem_cons_zero, List.getElem_cons_succ, Act.put, List.setIfInBounds_toArray, List.set_cons_zero, List.set_cons_succ]
            refine wpAnyIn_ready (rs := [0, 5]) (by kernel_rfl) (by simp) ?_
            refine AllReadyIn.cons (o := _) rfl (fun K hK => ?_) ?_
            · go_simp
              refine hK _ _ ?_
              clear hK K
              try simp only [List.getElem_toArray, List.getElem_cons_zero, List.getElem_cons_succ, Act.put, List.setIfInBounds_toArray, List.set_cons_zero, List.set_cons_succ]
              refine wpAnyIn_ready (rs := [5]) (by kernel_rfl) (by simp) ?_
              refine AllReadyIn.cons (o := _) rfl (fun K hK => ?_) ?_
              · go_simp
                refine ⟨by simp [Fence.wide], (CallsIn.inRound l' (callsIn_wide.2 CC.out)).mono ?_⟩
                rintro e w8 ⟨⟨m1, m2, m3, m4, m5, m6⟩, rfl, hv8, hb8⟩
                have HV8 := Lib.hid hv8
                have HB8 := Lib.hid hb8
                have c8 : w8.cell? ⟨W.heap.size, 0, none⟩ = some (.func (.yield l) #[] #[]) := (hb8.cell (p := ⟨W.heap.size, 0, none⟩) (World.block_lt_of_cell? _ _ cy)).trans cy
                clear hv8 hb8
                simp only [Nd.val]
                refine hK _ _ ?_
                clear hK K
                try simp only [List.getElem_toArray, List.getElem_cons_zero, List.getElem_cons_succ, Act.put, List.setIfInBounds_toArray, List.set_cons_zero, List.set_cons_succ]
                refine wpAnyIn_ready (rs := [6]) (by kernel_rfl) (by simp) ?_
                refine AllReadyIn.cons (o := _) rfl (fun K hK => ?_) ?_
                · obtain ⟨fn, tmps, assign, body, hy, hR⟩ := HYY.out _ _ HB8.out HV8.out
                  dsimp only [encY, Nd.val] at hy
                  go_simp
                  refine ⟨by simp [Fence.wide], RoundIn.mono (F := Fence.wide.inRound l') hR ?_⟩
                  rintro e W3 ⟨C', hf', hbd', hc', hE⟩
                  obtain ⟨hT, hF⟩ := HFIN.out _ _ _ _ HB8.out HV8.out hf' hbd' hc'
                  have HT := Lib.hid hT
                  have HF := Lib.hid hF
                  clear hR hy hf' hbd' hc' hT hF c8 cy
                  rcases hE with ⟨rfl, hJ3⟩ | ⟨rfl, hJ3⟩
                  · have HG := Lib.hid (HT.out hJ3)
                    clear hJ3 HT HF
                    refine hK _ _ ?_
                    clear hK K
                    try simp only [List.getElem_toArray, List.getElem_cons_zero, List.getElem_cons_succ, Act.put, List.setIfInBounds_toArray, List.set_cons_zero, List.set_cons_succ]
                    refine wpAnyIn_ready (rs := [7]) (by kernel_rfl) (by simp) ?_
                    refine AllReadyIn.cons (o := _) rfl (fun K hK => ?_) AllReadyIn.nil
                    go_simp
                    refine hK _ _ ?_
                    clear hK K
                    try simp only [List.getElem_toArray, List.getElem_cons_zero, List.getElem_cons_succ, Act.put, List.setIfInBounds_toArray, List.set_cons_zero, List.set_cons_succ]
                    refine wpAnyIn_done (by kernel_rfl) ?_ _
                    gi_wp2_with fail
                    exact HG.out
                  · have HG := Lib.hid (HF.out hJ3)
                    clear hJ3 HT HF
                    refine hK _ _ ?_
                    clear hK K
                    try simp only [List.getElem_toArray, List.getElem_cons_zero, List.getElem_cons_succ, Act.put, List.setIfInBounds_toArray, List.set_cons_zero, List.set_cons_succ]
                    refine wpAnyIn_ready (rs := [7]) (by kernel_rfl) (by simp) ?_
                    refine AllReadyIn.cons (o := _) rfl (fun K hK => ?_) AllReadyIn.nil
                    go_simp
                    refine hK _ _ ?_
                    clear hK K
                    try simp only [List.getElem_toArray, List.getElem_cons_zero, List.getElem_cons_succ, Act.put, List.setIfInBounds_toArray, List.set_cons_zero, List.set_cons_succ]
                    refine wpAnyIn_done (by kernel_rfl) ?_ _
                    gi_wp2_with fail
                    exact ⟨HG.out.1, HG.out.2.1, rfl, HG.out.2.2.2⟩
                exact AllReadyIn.nil
              exact AllReadyIn.nil
            refine AllReadyIn.cons (o := _) rfl (fun K hK => ?_) ?_
            · go_simp
              refine ⟨by simp [Fence.wide], (CallsIn.inRound l' (callsIn_wide.2 CC.out)).mono ?_⟩
              rintro e w8 ⟨⟨m1, m2, m3, m4, m5, m6⟩, rfl, hv8, hb8⟩
              have HV8 := Lib.hid hv8
              have HB8 := Lib.hid hb8
              have c8 : w8.cell? ⟨W.heap.size, 0, none⟩ = some (.func (.yield l) #[] #[]) := (hb8.cell (p := ⟨W.heap.size, 0, none⟩) (World.block_lt_of_cell? _ _ cy)).trans cy
              clear hv8 hb8
              simp only [Nd.val]
              refine hK _ _ ?_
              clear hK K
              try simp only [List.getElem_toArray, List.getElem_cons_zero, List.getElem_cons_succ, Act.put, List.setIfInBounds_toArray, List.set_cons_zero, List.set_cons_succ]
              refine wpAnyIn_ready (rs := [0]) (by kernel_rfl) (by simp) ?_
              refine AllReadyIn.cons (o := _) rfl (fun K hK => ?_) ?_
              · go_simp
                refine hK _ _ ?_
                clear hK K
                try simp only [List.getElem_toArray, List.getElem_cons_zero, List.getElem_cons_succ, Act.put, List.setIfInBounds_toArray, List.set_cons_zero, List.set_cons_succ]
                refine wpAnyIn_ready (rs := [6]) (by kernel_rfl) (by simp) ?_
                refine AllReadyIn.cons (o := _) rfl (fun K hK => ?_) ?_
                · obtain ⟨fn, tmps, assign, body, hy, hR⟩ := HYY.out _ _ HB8.out HV8.out
                  dsimp only [encY, Nd.val] at hy
                  go_simp
                  refine ⟨by simp [Fence.wide], RoundIn.mono (F := Fence.wide.inRound l') hR ?_⟩
                  rintro e W3 ⟨C', hf', hbd', hc', hE⟩
                  obtain ⟨hT, hF⟩ := HFIN.out _ _ _ _ HB8.out HV8.out hf' hbd' hc'
                  have HT := Lib.hid hT
                  have HF := Lib.hid hF
                  clear hR hy hf' hbd' hc' hT hF c8 cy
                  rcases hE with ⟨rfl, hJ3⟩ | ⟨rfl, hJ3⟩
                  · have HG := Lib.hid (HT.out hJ3)
                    clear hJ3 HT HF
                    refine hK _ _ ?_
                    clear hK K
                    try simp only [List.getElem_toArray, List.getElem_cons_zero, List.getElem_cons_succ, Act.put, List.setIfInBounds_toArray, List.set_cons_zero, List.set_cons_succ]
                    refine wpAnyIn_ready (rs := [7]) (by kernel_rfl) (by simp) ?_
                    refine AllReadyIn.cons (o := _) rfl (fun K hK => ?_) AllReadyIn.nil
                    go_simp
                    refine hK _ _ ?_
                    clear hK K
                    try simp only [List.getElem_toArray, List.getElem_cons_zero, List.getElem_cons_succ, Act.put, List.setIfInBounds_toArray, List.set_cons_zero, List.set_cons_succ]
                    refine wpAnyIn_done (by kernel_rfl) ?_ _
                    gi_wp2_with fail
                    exact HG.out
                  · have HG := Lib.hid (HF.out hJ3)
                    clear hJ3 HT HF
                    refine hK _ _ ?_
                    clear hK K
                    try simp only [List.getElem_toArray, List.getElem_cons_zero, List.getElem_cons_succ, Act.put, List.setIfInBounds_toArray, List.set_cons_zero, List.set_cons_succ]
                    refine wpAnyIn_ready (rs := [7]) (by kernel_rfl) (by simp) ?_
                    refine AllReadyIn.cons (o := _) rfl (fun K hK => ?_) AllReadyIn.nil
                    go_simp
                    refine hK _ _ ?_
                    clear hK K
                    try simp only [List.getElem_toArray, List.getElem_cons_zero, List.getElem_cons_succ, Act.put, List.setIfInBounds_toArray, List.set_cons_zero, List.set_cons_succ]
                    refine wpAnyIn_done (by kernel_rfl) ?_ _
                    gi_wp2_with fail
                    exact ⟨HG.out.1, HG.out.2.1, rfl, HG.out.2.2.2⟩
                exact AllReadyIn.nil
              exact AllReadyIn.nil
            exact AllReadyIn.nil
          exact AllReadyIn.nil
        exact AllReadyIn.nil
      refine AllReadyIn.cons (o := _) rfl (fun K hK => ?_) ?_
      · go_simp
        refine hK _ _ ?_
        clear hK K
        try simp only [List.getElem_toArray, List.getElem_cons_zero, List.getElem_cons_succ, Act.put, List.setIfInBounds_toArray, List.set_cons_zero, List.set_cons_succ]
        refine wpAnyIn_ready (rs := [0, 1, 4]) (by kernel_rfl) (by simp) ?_
        refine AllReadyIn.cons (o := _) rfl (fun K hK => ?_) ?_
        · go_simp
          refine hK _ _ ?_
          clear hK K
          try simp only [List.getElem_toArray, List.getElem_cons_zero, List.getElem_cons_succ, Act.put, List.setIfInBounds_toArray, List.set_cons_zero, List.set_cons_succ]
          refine wpAnyIn_ready (rs := [1, 4]) (by kernel_rfl) (by simp) ?_
          refine AllReadyIn.cons (o := _) rfl (fun K hK => ?_) ?_
          · go_simp
            refine hK _ _ ?_
            clear hK K
            try simp only [List.getElem_toArray, List.getElem_cons_zero, List.getElem_cons_succ, Act.put, List.setIfInBounds_toArray, List.set_cons_zero, List.set_cons_succ]
            refine wpAnyIn_ready (rs := [4]) (by kernel_rfl) (by simp) ?_
            refine AllReadyIn.cons (o := _) rfl (fun K hK => ?_) ?_
            · go_simp
              refine hK _ _ ?_
              clear hK K
              try simp only [List.getElem_toArray, List.getElem_cons_zero, List.getElem_cons_succ, Act.put, List.setIfInBounds_toArray, List.set_cons_zero, List.set_cons_succ]
              refine wpAnyIn_ready (rs := [5]) (by kernel_rfl) (by simp) ?_
              refine AllReadyIn.cons (o := _) rfl (fun K hK => ?_) ?_
              · go_simp
                refine ⟨by simp [Fence.wide], (CallsIn.inRound l' (callsIn_wide.2 CC.out)).mono ?_⟩
                rintro e w8 ⟨⟨m1, m2, m3, m4, m5, m6⟩, rfl, hv8, hb8⟩
                have HV8 := Lib.hid hv8
                have HB8 := Lib.hid hb8
                have c8 : w8.cell? ⟨W.heap.size, 0, none⟩ = some (.func (.yield l) #[] #[]) := (hb8.cell (p := ⟨W.heap.size, 0, none⟩) (World.block_lt_of_cell? _ _ cy)).trans cy
                clear hv8 hb8
                simp only [Nd.val]
                refine hK _ _ ?_
                clear hK K
                try simp only [List.getElem_toArray, List.getElem_cons_zero, List.getElem_cons_succ, Act.put, List.setIfInBounds_toArray, List.set_cons_zero, List.set_cons_succ]
                refine wpAnyIn_ready (rs := [6]) (by kernel_rfl) (by simp) ?_
                refine AllReadyIn.cons (o := _) rfl (fun K hK => ?_) ?_
                · obtain ⟨fn, tmps, assign, body, hy, hR⟩ := HYY.out _ _ HB8.out HV8.out
                  dsimp only [encY, Nd.val] at hy
                  go_simp
                  refine ⟨by simp [Fence.wide], RoundIn.mono (F := Fence.wide.inRound l') hR ?_⟩
                  rintro e W3 ⟨C', hf', hbd', hc', hE⟩
                  obtain ⟨hT, hF⟩ := HFIN.out _ _ _ _ HB8.out HV8.out hf' hbd' hc'
                  have HT := Lib.hid hT
                  have HF := Lib.hid hF
                  clear hR hy hf' hbd' hc' hT hF c8 cy
                  rcases hE with ⟨rfl, hJ3⟩ | ⟨rfl, hJ3⟩
                  · have HG := Lib.hid (HT.out hJ3)
                    clear hJ3 HT HF
                    refine hK _ _ ?_
                    clear hK K
                    try simp only [List.getElem_toArray, List.getElem_cons_zero, List.getElem_cons_succ, Act.put, List.setIfInBounds_toArray, List.set_cons_zero, List.set_cons_succ]
                    refine wpAnyIn_ready (rs := [7]) (by kernel_rfl) (by simp) ?_
                    refine AllReadyIn.cons (o := _) rfl (fun K hK => ?_) AllReadyIn.nil
                    go_simp
                    refine hK _ _ ?_
                    clear hK K
                    try simp only [List.getElem_toArray, List.getElem_cons_zero, List.getElem_cons_succ, Act.put, List.setIfInBounds_toArray, List.set_cons_zero, List.set_cons_succ]
                    refine wpAnyIn_done (by kernel_rfl) ?_ _
                    gi_wp2_with fail
                    exact HG.out
                  · have HG := Lib.hid (HF.out hJ3)
                    clear hJ3 HT HF
                    refine hK _ _ ?_
                    clear hK K
                    try simp only [List.getElem_toArray, List.getElem_cons_zero, List.getElem_cons_succ, Act.put, List.setIfInBounds_toArray, List.set_cons_zero, List.set_cons_succ]
                    refine wpAnyIn_ready (rs := [7]) (by kernel_rfl) (by simp) ?_
                    refine AllReadyIn.cons (o := _) rfl (fun K hK => ?_) AllReadyIn.nil
                    go_simp
                    refine hK _ _ ?_
                    clear hK K
                    try simp only [List.getElem_toArray, List.getElem_cons_zero, List.getElem_cons_succ, Act.put, List.setIfInBounds_toArray, List.set_cons_zero, List.set_cons_succ]
                    refine wpAnyIn_done (by kernel_rfl) ?_ _
                    gi_wp2_with fail
                    exact ⟨HG.out.1, HG.out.2.1, rfl, HG.out.2.2.2⟩
                exact AllReadyIn.nil
              exact AllReadyIn.nil
            exact AllReadyIn.nil
          refine AllReadyIn.cons (o := _) rfl (fun K hK => ?_) ?_
          · go_simp
            refine hK _ _ ?_
            clear hK K
            try simp only [List.getElem_toArray, List.getElem_cons_zero, List.getElem_cons_succ, Act.put, List.setIfInBounds_toArray, List.set_cons_zero, List.set_cons_succ]
            refine wpAnyIn_ready (rs := [1, 5]) (by kernel_rfl) (by simp) ?_
            refine AllReadyIn.cons (o := _) rfl (fun K hK => ?_) ?_
            · go_simp
              refine hK _ _ ?_
              clear hK K
              try simp only [List.getElem_toArray, List.getElem_cons_zero, List.getElem_cons_succ, Act.put, List.setIfInBounds_toArray, List.set_cons_zero, List.set_cons_succ]
              refine wpAnyIn_ready (rs := [5]) (by kernel_rfl) (by simp) ?_
              refine AllReadyIn.cons (o := _) rfl (fun K hK => ?_) ?_
              · go_simp
                refine ⟨by simp [Fence.wide], (CallsIn.inRound l' (callsIn_wide.2 CC.out)).mono ?_⟩
                rintro e w8 ⟨⟨m1, m2, m3, m4, m5, m6⟩, rfl, hv8, hb8⟩
                have HV8 := Lib.hid hv8
                have HB8 := Lib.hid hb8
                have c8 : w8.cell? ⟨W.heap.size, 0, none⟩ = some (.func (.yield l) #[] #[]) := (hb8.cell (p := ⟨W.heap.size, 0, none⟩) (World.block_lt_of_cell? _ _ cy)).trans cy
                clear hv8 hb8
                simp only [Nd.val]
                refine hK _ _ ?_
                clear hK K
                try simp only [List.getElem_toArray, List.getElem_cons_zero, List.getElem_cons_succ, Act.put, List.setIfInBounds_toArray, List.set_cons_zero, List.set_cons_succ]
                refine wpAnyIn_ready (rs := [6]) (by kernel_rfl) (by simp) ?_
                refine AllReadyIn.cons (o := _) rfl (fun K hK => ?_) ?_
                · obtain ⟨fn, tmps, assign, body, hy, hR⟩ := HYY.out _ _ HB8.out HV8.out
                  dsimp only [encY, Nd.val] at hy
                  go_simp
                  refine ⟨by simp [Fence.wide], RoundIn.mono (F := Fence.wide.inRound l') hR ?_⟩
                  rintro e W3 ⟨C', hf', hbd', hc', hE⟩
                  obtain ⟨hT, hF⟩ := HFIN.out _ _ _ _ HB8.out HV8.out hf' hbd' hc'
                  have HT := Lib.hid hT
                  have HF := Lib.hid hF
                  clear hR hy hf' hbd' hc' hT hF c8 cy
                  rcases hE with ⟨rfl, hJ3⟩ | ⟨rfl, hJ3⟩
                  · have HG := Lib.hid (HT.out hJ3)
                    clear hJ3 HT HF
                    refine hK _ _ ?_
                    clear hK K
                    try simp only [List.getElem_toArray, List.getElem_cons_zero, List.getElem_cons_succ, Act.put, List.setIfInBounds_toArray, List.set_cons_zero, List.set_cons_succ]
                    refine wpAnyIn_ready (rs := [7]) (by kernel_rfl) (by simp) ?_
                    refine AllReadyIn.cons (o := _) rfl (fun K hK => ?_) AllReadyIn.nil
                    go_simp
                    refine hK _ _ ?_
                    clear hK K
                    try simp only [List.getElem_toArray, List.getElem_cons_zero, List.getElem_cons_succ, Act.put, List.setIfInBounds_toArray, List.set_cons_zero, List.set_cons_succ]
                    refine wpAnyIn_done (by kernel_rfl) ?_ _
                    gi_wp2_with fail
                    exact HG.out
                  · have HG := Lib.hid (HF.out hJ3)
                    clear hJ3 HT HF
                    refine hK _ _ ?_
                    clear hK K
                    try simp only [List.getElem_toArray, List.getElem_cons_zero, List.getElem_cons_succ, Act.put, List.setIfInBounds_toArray, List.set_cons_zero, List.set_cons_succ]
                    refine wpAnyIn_ready (rs := [7]) (by kernel_rfl) (by simp) ?_
                    refine AllReadyIn.cons (o := _) rfl (fun K hK => ?_) AllReadyIn.nil
                    go_simp
                    refine hK _ _ ?_
                    clear hK K
                    try simp only [List.getElem_toArray, List.getElem_cons_zero, List.getElem_cons_succ, Act.put, List.setIfInBounds_toArray, List.set_cons_zero, List.set_cons_succ]
                    refine wpAnyIn_done (by kernel_rfl) ?_ _
                    gi_wp2_with fail
                    exact ⟨HG.out.1, HG.out.2.1, rfl, HG.out.2.2.2⟩
                exact AllReadyIn.nil
              exact AllReadyIn.nil
            refine AllReadyIn.cons (o := _) rfl (fun K hK => ?_) ?_
            · go_simp
              refine ⟨by simp [Fence.wide], (CallsIn.inRound l' (callsIn_wide.2 CC.out)).mono ?_⟩
              rintro e w8 ⟨⟨m1, m2, m3, m4, m5, m6⟩, rfl, hv8, hb8⟩
              have HV8 := Lib.hid hv8
              have HB8 := Lib.hid hb8
              have c8 : w8.cell? ⟨W.heap.size, 0, none⟩ = some (.func (.yield l) #[] #[]) := (hb8.cell (p := ⟨W.heap.size, 0, none⟩) (World.block_lt_of_cell? _ _ cy)).trans cy
              clear hv8 hb8
              simp only [Nd.val]
              refine hK _ _ ?_
              clear hK K
              try simp only [List.getElem_toArray, List.getElem_cons_zero, List.getElem_cons_succ, Act.put, List.setIfInBounds_toArray, List.set_cons_zero, List.set_cons_succ]
              refine wpAnyIn_ready (rs := [1]) (by kernel_rfl) (by simp) ?_
              refine AllReadyIn.cons (o := _) rfl (fun K hK => ?_) ?_
              · go_simp
                refine hK _ _ ?_
                clear hK K
                try simp only [List.getElem_toArray, List.getElem_cons_zero, List.getElem_cons_succ, Act.put, List.setIfInBounds_toArray, List.set_cons_zero, List.set_cons_succ]
                refine wpAnyIn_ready (rs := [6]) (by kernel_rfl) (by simp) ?_
                refine AllReadyIn.cons (o := _) rfl (fun K hK => ?_) ?_
                · obtain ⟨fn, tmps, assign, body, hy, hR⟩ := HYY.out _ _ HB8.out HV8.out
                  dsimp only [encY, Nd.val] at hy
                  go_simp
                  refine ⟨by simp [Fence.wide], RoundIn.mono (F := Fence.wide.inRound l') hR ?_⟩
                  rintro e W3 ⟨C', hf', hbd', hc', hE⟩
                  obtain ⟨hT, hF⟩ := HFIN.out _ _ _ _ HB8.out HV8.out hf' hbd' hc'
                  have HT := Lib.hid hT
                  have HF := Lib.hid hF
                  clear hR hy hf' hbd' hc' hT hF c8 cy
                  rcases hE with ⟨rfl, hJ3⟩ | ⟨rfl, hJ3⟩
                  · have HG := Lib.hid (HT.out hJ3)
                    clear hJ3 HT HF
                    refine hK _ _ ?_
                    clear hK K
                    try simp only [List.getElem_toArray, List.getElem_cons_zero, List.getElem_cons_succ, Act.put, List.setIfInBounds_toArray, List.set_cons_zero, List.set_cons_succ]
                    refine wpAnyIn_ready (rs := [7]) (by kernel_rfl) (by simp) ?_
                    refine AllReadyIn.cons (o := _) rfl (fun K hK => ?_) AllReadyIn.nil
                    go_simp
                    refine hK _ _ ?_
                    clear hK K
                    try simp only [List.getElem_toArray, List.getElem_cons_zero, List.getElem_cons_succ, Act.put, List.setIfInBounds_toArray, List.set_cons_zero, List.set_cons_succ]
                    refine wpAnyIn_done (by kernel_rfl) ?_ _
                    gi_wp2_with fail
                    exact HG.out
                  · have HG := Lib.hid (HF.out hJ3)
                    clear hJ3 HT HF
                    refine hK _ _ ?_
                    clear hK K
                    try simp only [List.getElem_toArray, List.getElem_cons_zero, List.getElem_cons_succ, Act.put, List.setIfInBounds_toArray, List.set_cons_zero, List.set_cons_succ]
                    refine wpAnyIn_ready (rs := [7]) (by kernel_rfl) (by simp) ?_
                    refine AllReadyIn.cons (o := _) rfl (fun K hK => ?_) AllReadyIn.nil
                    go_simp
                    refine hK _ _ ?_
                    clear hK K
                    try simp only [List.getElem_toArray, List.getElem_cons_zero, List.getElem_cons_succ, Act.put, List.setIfInBounds_toArray, List.set_cons_zero, List.set_cons_succ]
                    refine wpAnyIn_done (by kernel_rfl) ?_ _
                    gi_wp2_with fail
                    exact ⟨HG.out.1, HG.out.2.1, rfl, HG.out.2.2.2⟩
                exact AllReadyIn.nil
              exact AllReadyIn.nil
            exact AllReadyIn.nil
          exact AllReadyIn.nil
        refine AllReadyIn.cons (o := _) rfl (fun K hK => ?_) ?_
        · go_simp
          refine hK _ _ ?_
          clear hK K
          try simp only [List.getElem_toArray, List.getElem_cons_zero, List.getElem_cons_succ, Act.put, List.setIfInBounds_toArray, List.set_cons_zero, List.set_cons_succ]
          refine wpAnyIn_ready (rs := [0, 4]) (by kernel_rfl) (by simp) ?_
          refine AllReadyIn.cons (o := _) rfl (fun K hK => ?_) ?_
          · go_simp
            refine hK _ _ ?_
            clear hK K
            try simp only [List.getElem_toArray, List.getElem_cons_zero, List.getElem_cons_succ, Act.put, List.setIfInBounds_toArray, List.set_cons_zero, List.set_cons_succ]
            refine wpAnyIn_ready (rs := [4]) (by kernel_rfl) (by simp) ?_
            refine AllReadyIn.cons (o := _) rfl (fun K hK => ?_) ?_
            · go_simp
              refine hK _ _ ?_
              clear hK K
              try simp only [List.getElem_toArray, List.getElem_cons_zero, List.getElem_cons_succ, Act.put, List.setIfInBounds_toArray, List.set_cons_zero, List.set_cons_succ]
              refine wpAnyIn_ready (rs := [5]) (by kernel_rfl) (by simp) ?_
              refine AllReadyIn.cons (o := _) rfl (fun K hK => ?_) ?_
              · go_simp
                refine ⟨by simp [Fence.wide], (CallsIn.inRound l' (callsIn_wide.2 CC.out)).mono ?_⟩
                rintro e w8 ⟨⟨m1, m2, m3, m4, m5, m6⟩, rfl, hv8, hb8⟩
                have HV8 := Lib.hid hv8
                have HB8 := Lib.hid hb8
                have c8 : w8.cell? ⟨W.heap.size, 0, none⟩ = some (.func (.yield l) #[] #[]) := (hb8.cell (p := ⟨W.heap.size, 0, none⟩) (World.block_lt_of_cell? _ _ cy)).trans cy
                clear hv8 hb8
                simp only [Nd.val]
                refine hK _ _ ?_
                clear hK K
                try simp only [List.getElem_toArray, List.getElem_cons_zero, List.getElem_cons_succ, Act.put, List.setIfInBounds_toArray, List.set_cons_zero, List.set_cons_succ]
                refine wpAnyIn_ready (rs := [6]) (by kernel_rfl) (by simp) ?_
                refine AllReadyIn.cons (o := _) rfl (fun K hK => ?_) ?_
                · obtain ⟨fn, tmps, assign, body, hy, hR⟩ := HYY.out _ _ HB8.out HV8.out
                  dsimp only [encY, Nd.val] at hy
                  go_simp
                  refine ⟨by simp [Fence.wide], RoundIn.mono (F := Fence.wide.inRound l') hR ?_⟩
                  rintro e W3 ⟨C', hf', hbd', hc', hE⟩
                  obtain ⟨hT, hF⟩ := HFIN.out _ _ _ _ HB8.out HV8.out hf' hbd' hc'
                  have HT := Lib.hid hT
                  have HF := Lib.hid hF
                  clear hR hy hf' hbd' hc' hT hF c8 cy
                  rcases hE with ⟨rfl, hJ3⟩ | ⟨rfl, hJ3⟩
                  · have HG := Lib.hid (HT.out hJ3)
                    clear hJ3 HT HF
                    refine hK _ _ ?_
                    clear hK K
                    try simp only [List.getElem_toArray, List.getElem_cons_zero, List.getElem_cons_succ, Act.put, List.setIfInBounds_toArray, List.set_cons_zero, List.set_cons_succ]
                    refine wpAnyIn_ready (rs := [7]) (by kernel_rfl) (by simp) ?_
                    refine AllReadyIn.cons (o := _) rfl (fun K hK => ?_) AllReadyIn.nil
                    go_simp
                    refine hK _ _ ?_
                    clear hK K
                    try simp only [List.getElem_toArray, List.getElem_cons_zero, List.getElem_cons_succ, Act.put, List.setIfInBounds_toArray, List.set_cons_zero, List.set_cons_succ]
                    refine wpAnyIn_done (by kernel_rfl) ?_ _
                    gi_wp2_with fail
                    exact HG.out
                  · have HG := Lib.hid (HF.out hJ3)
                    clear hJ3 HT HF
                    refine hK _ _ ?_
                    clear hK K
                    try simp only [List.getElem_toArray, List.getElem_cons_zero, List.getElem_cons_succ, Act.put, List.setIfInBounds_toArray, List.set_cons_zero, List.set_cons_succ]
                    refine wpAnyIn_ready (rs := [7]) (by kernel_rfl) (by simp) ?_
                    refine AllReadyIn.cons (o := _) rfl (fun K hK => ?_) AllReadyIn.nil
                    go_simp
                    refine hK _ _ ?_
                    clear hK K
                    try simp only [List.getElem_toArray, List.getElem_cons_zero, List.getElem_cons_succ, Act.put, List.setIfInBounds_toArray, List.set_cons_zero, List.set_cons_succ]
                    refine wpAnyIn_done (by kernel_rfl) ?_ _
                    gi_wp2_with fail
                    exact ⟨HG.out.1, HG.out.2.1, rfl, HG.out.2.2.2⟩
                exact AllReadyIn.nil
              exact AllReadyIn.nil
            exact AllReadyIn.nil
          refine AllReadyIn.cons (o := _) rfl (fun K hK => ?_) ?_
          · go_simp
            refine hK _ _ ?_
            clear hK K
            try simp only [List.getElem_toArray, List.getElem_cons_zero, List.getElem_cons_succ, Act.put, List.setIfInBounds_toArray, List.set_cons_zero, List.set_cons_succ]
            refine wpAnyIn_ready (rs := [0, 5]) (by kernel_rfl) (by simp) ?_
            refine AllReadyIn.cons (o := _) rfl (fun K hK => ?_) ?_
            · go_simp
              refine hK _ _ ?_
              clear hK K
              try simp only [List.getElem_toArray, List.getElem_cons_zero, List.getElem_cons_succ, Act.put, List.setIfInBounds_toArray, List.set_cons_zero, List.set_cons_succ]
              refine wpAnyIn_ready (rs := [5]) (by kernel_rfl) (by simp) ?_
              refine AllReadyIn.cons (o := _) rfl (fun K hK => ?_) ?_
              · go_simp
                refine ⟨by simp [Fence.wide], (CallsIn.inRound l' (callsIn_wide.2 CC.out)).mono ?_⟩
                rintro e w8 ⟨⟨m1, m2, m3, m4, m5, m6⟩, rfl, hv8, hb8⟩
                have HV8 := Lib.hid hv8
                have HB8 := Lib.hid hb8
                have c8 : w8.cell? ⟨W.heap.size, 0, none⟩ = some (.func (.yield l) #[] #[]) := (hb8.cell (p := ⟨W.heap.size, 0, none⟩) (World.block_lt_of_cell? _ _ cy)).trans cy
                clear hv8 hb8
                simp only [Nd.val]
                refine hK _ _ ?_
                clear hK K
                try simp only [List.getElem_toArray, List.getElem_cons_zero, List.getElem_cons_succ, Act.put, List.setIfInBounds_toArray, List.set_cons_zero, List.set_cons_succ]
                refine wpAnyIn_ready (rs := [6]) (by kernel_rfl) (by simp) ?_
                refine AllReadyIn.cons (o := _) rfl (fun K hK => ?_) ?_
                · obtain ⟨fn, tmps, assign, body, hy, hR⟩ := HYY.out _ _ HB8.out HV8.out
                  dsimp only [encY, Nd.val] at hy
                  go_simp
                  refine ⟨by simp [Fence.wide], RoundIn.mono (F := Fence.wide.inRound l') hR ?_⟩
                  rintro e W3 ⟨C', hf', hbd', hc', hE⟩
                  obtain ⟨hT, hF⟩ := HFIN.out _ _ _ _ HB8.out HV8.out hf' hbd' hc'
                  have HT := Lib.hid hT
                  have HF := Lib.hid hF
                  clear hR hy hf' hbd' hc' hT hF c8 cy
                  rcases hE with ⟨rfl, hJ3⟩ | ⟨rfl, hJ3⟩
                  · have HG := Lib.hid (HT.out hJ3)
                    clear hJ3 HT HF
                    refine hK _ _ ?_
                    clear hK K
                    try simp only [List.getElem_toArray, List.getElem_cons_zero, List.getElem_cons_succ, Act.put, List.setIfInBounds_toArray, List.set_cons_zero, List.set_cons_succ]
                    refine wpAnyIn_ready (rs := [7]) (by kernel_rfl) (by simp) ?_
                    refine AllReadyIn.cons (o := _) rfl (fun K hK => ?_) AllReadyIn.nil
                    go_simp
                    refine hK _ _ ?_
                    clear hK K
                    try simp only [List.getElem_toArray, List.getElem_cons_zero, List.getElem_cons_succ, Act.put, List.setIfInBounds_toArray, List.set_cons_zero, List.set_cons_succ]
                    refine wpAnyIn_done (by kernel_rfl) ?_ _
                    gi_wp2_with fail
                    exact HG.out
                  · have HG := Lib.hid (HF.out hJ3)
                    clear hJ3 HT HF
                    refine hK _ _ ?_
                    clear hK K
                    try simp only [List.getElem_toArray, List.getElem_cons_zero, List.getElem_cons_succ, Act.put, List.setIfInBounds_toArray, List.set_cons_zero, List.set_cons_succ]
                    refine wpAnyIn_ready (rs := [7]) (by kernel_rfl) (by simp) ?_
                    refine AllReadyIn.cons (o := _) rfl (fun K hK => ?_) AllReadyIn.nil
                    go_simp
                    refine hK _ _ ?_
                    clear hK K
                    try simp only [List.getElem_toArray, List.getElem_cons_zero, List.getElem_cons_succ, Act.put, List.setIfInBounds_toArray, List.set_cons_zero, List.set_cons_succ]
                    refine wpAnyIn_done (by kernel_rfl) ?_ _
                    gi_wp2_with fail
                    exact ⟨HG.out.1, HG.out.2.1, rfl, HG.out.2.2.2⟩
                exact AllReadyIn.nil
              exact AllReadyIn.nil
            refine AllReadyIn.cons (o := _) rfl (fun K hK => ?_) ?_
            · go_simp
              refine ⟨by simp [Fence.wide], (CallsIn.inRound l' (callsIn_wide.2 CC.out)).mono ?_⟩
              rintro e w8 ⟨⟨m1, m2, m3, m4, m5, m6⟩, rfl, hv8, hb8⟩
              have HV8 := Lib.hid hv8
              have HB8 := Lib.hid hb8
              have c8 : w8.cell? ⟨W.heap.size, 0, none⟩ = some (.func (.yield l) #[] #[]) := (hb8.cell (p := ⟨W.heap.size, 0, none⟩) (World.block_lt_of_cell? _ _ cy)).trans cy
              clear hv8 hb8
              simp only [Nd.val]
              refine hK _ _ ?_
              clear hK K
              try simp only [List.getElem_toArray, List.getElem_cons_zero, List.getElem_cons_succ, Act.put, List.setIfInBounds_toArray, List.set_cons_zero, List.set_cons_succ]
              refine wpAnyIn_ready (rs := [0]) (by kernel_rfl) (by simp) ?_
              refine AllReadyIn.cons (o := _) rfl (fun K hK => ?_) ?_
              · go_simp
                refine hK _ _ ?_
                clear hK K
                try simp only [List.getElem_toArray, List.getElem_cons_zero, List.getElem_cons_succ, Act.put, List.setIfInBounds_toArray, List.set_cons_zero, List.set_cons_succ]
                refine wpAnyIn_ready (rs := [6]) (by kernel_rfl) (by simp) ?_
                refine AllReadyIn.cons (o := _) rfl (fun K hK => ?_) ?_
                · obtain ⟨fn, tmps, assign, body, hy, hR⟩ := HYY.out _ _ HB8.out HV8.out
                  dsimp only [encY, Nd.val] at hy
                  go_simp
                  refine ⟨by simp [Fence.wide], RoundIn.mono (F := Fence.wide.inRound l') hR ?_⟩
                  rintro e W3 ⟨C', hf', hbd', hc', hE⟩
                  obtain ⟨hT, hF⟩ := HFIN.out _ _ _ _ HB8.out HV8.out hf' hbd' hc'
                  have HT := Lib.hid hT
                  have HF := Lib.hid hF
                  clear hR hy hf' hbd' hc' hT hF c8 cy
                  rcases hE with ⟨rfl, hJ3⟩ | ⟨rfl, hJ3⟩
                  · have HG := Lib.hid (HT.out hJ3)
                    clear hJ3 HT HF
                    refine hK _ _ ?_
                    clear hK K
                    try simp only [List.getElem_toArray, List.getElem_cons_zero, List.getElem_cons_succ, Act.put, List.setIfInBounds_toArray, List.set_cons_zero, List.set_cons_succ]
                    refine wpAnyIn_ready (rs := [7]) (by kernel_rfl) (by simp) ?_
                    refine AllReadyIn.cons (o := _) rfl (fun K hK => ?_) AllReadyIn.nil
                    go_simp
                    refine hK _ _ ?_
                    clear hK K
                    try simp only [List.getElem_toArray, List.getElem_cons_zero, List.getElem_cons_succ, Act.put, List.setIfInBounds_toArray, List.set_cons_zero, List.set_cons_succ]
                    refine wpAnyIn_done (by kernel_rfl) ?_ _
                    gi_wp2_with fail
                    exact HG.out
                  · have HG := Lib.hid (HF.out hJ3)
                    clear hJ3 HT HF
                    refine hK _ _ ?_
                    clear hK K
                    try simp only [List.getElem_toArray, List.getElem_cons_zero, List.getElem_cons_succ, Act.put, List.setIfInBounds_toArray, List.set_cons_zero, List.set_cons_succ]
                    refine wpAnyIn_ready (rs := [7]) (by kernel_rfl) (by simp) ?_
                    refine AllReadyIn.cons (o := _) rfl (fun K hK => ?_) AllReadyIn.nil
                    go_simp
                    refine hK _ _ ?_
                    clear hK K
                    try simp only [List.getElem_toArray, List.getElem_cons_zero, List.getElem_cons_succ, Act.put, List.setIfInBounds_toArray, List.set_cons_zero, List.set_cons_succ]
                    refine wpAnyIn_done (by kernel_rfl) ?_ _
                    gi_wp2_with fail
                    exact ⟨HG.out.1, HG.out.2.1, rfl, HG.out.2.2.2⟩
                exact AllReadyIn.nil
              exact AllReadyIn.nil
            exact AllReadyIn.nil
          exact AllReadyIn.nil
        refine AllReadyIn.cons (o := _) rfl (fun K hK => ?_) ?_
        · go_simp
          refine hK _ _ ?_
          clear hK K
          try simp only [List.getElem_toArray, List.getElem_cons_zero, List.getElem_cons_succ, Act.put, List.setIfInBounds_toArray, List.set_cons_zero, List.set_cons_succ]
          refine wpAnyIn_ready (rs := [0, 1, 5]) (by kernel_rfl) (by simp) ?_
          refine AllReadyIn.cons (o := _) rfl (fun K hK => ?_) ?_
          · go_simp
            refine hK _ _ ?_
            clear hK K
            try simp only [List.getElem_toArray, List.getElem_cons_zero, List.getElem_cons_succ, Act.put, List.setIfInBounds_toArray, List.set_cons_zero, List.set_cons_succ]
            refine wpAnyIn_ready (rs := [1, 5]) (by kernel_rfl) (by simp) ?_
            refine AllReadyIn.cons (o := _) rfl (fun K hK => ?_) ?_
            · go_simp
              refine hK _ _ ?_
              clear hK K
              try simp only [List.getElem_toArray, List.getElem_cons_zero, List.getElem_cons_succ, Act.put, List.setIfInBounds_toArray, List.set_cons_zero, List.set_cons_succ]
              refine wpAnyIn_ready (rs := [5]) (by kernel_rfl) (by simp) ?_
              refine AllReadyIn.cons (o := _) rfl (fun K hK => ?_) ?_
              · go_simp
                refine ⟨by simp [Fence.wide], (CallsIn.inRound l' (callsIn_wide.2 CC.out)).mono ?_⟩
                rintro e w8 ⟨⟨m1, m2, m3, m4, m5, m6⟩, rfl, hv8, hb8⟩
                have HV8 := Lib.hid hv8
                have HB8 := Lib.hid hb8
                have c8 : w8.cell? ⟨W.heap.size, 0, none⟩ = some (.func (.yield l) #[] #[]) := (hb8.cell (p := ⟨W.heap.size, 0, none⟩) (World.block_lt_of_cell? _ _ cy)).trans cy
                clear hv8 hb8
                simp only [Nd.val]
                refine hK _ _ ?_
                clear hK K
                try simp only [List.getElem_toArray, List.getElem_cons_zero, List.getElem_cons_succ, Act.put, List.setIfInBounds_toArray, List.set_cons_zero, List.set_cons_succ]
                refine wpAnyIn_ready (rs := [6]) (by kernel_rfl) (by simp) ?_
                refine AllReadyIn.cons (o := _) rfl (fun K hK => ?_) ?_
                · obtain ⟨fn, tmps, assign, body, hy, hR⟩ := HYY.out _ _ HB8.out HV8.out
                  dsimp only [encY, Nd.val] at hy
                  go_simp
                  refine ⟨by simp [Fence.wide], RoundIn.mono (F := Fence.wide.inRound l') hR ?_⟩
                  rintro e W3 ⟨C', hf', hbd', hc', hE⟩
                  obtain ⟨hT, hF⟩ := HFIN.out _ _ _ _ HB8.out HV8.out hf' hbd' hc'
                  have HT := Lib.hid hT
                  have HF := Lib.hid hF
                  clear hR hy hf' hbd' hc' hT hF c8 cy
                  rcases hE with ⟨rfl, hJ3⟩ | ⟨rfl, hJ3⟩
                  · have HG := Lib.hid (HT.out hJ3)
                    clear hJ3 HT HF
                    refine hK _ _ ?_
                    clear hK K
                    try simp only [List.getElem_toArray, List.getElem_cons_zero, List.getElem_cons_succ, Act.put, List.setIfInBounds_toArray, List.set_cons_zero, List.set_cons_succ]
                    refine wpAnyIn_ready (rs := [7]) (by kernel_rfl) (by simp) ?_
                    refine AllReadyIn.cons (o := _) rfl (fun K hK => ?_) AllReadyIn.nil
                    go_simp
                    refine hK _ _ ?_
                    clear hK K
                    try simp only [List.getElem_toArray, List.getElem_cons_zero, List.getElem_cons_succ, Act.put, List.setIfInBounds_toArray, List.set_cons_zero, List.set_cons_succ]
                    refine wpAnyIn_done (by kernel_rfl) ?_ _
                    gi_wp2_with fail
                    exact HG.out
                  · have HG := Lib.hid (HF.out hJ3)
                    clear hJ3 HT HF
                    refine hK _ _ ?_
                    clear hK K
                    try simp only [List.getElem_toArray, List.getElem_cons_zero, List.getElem_cons_succ, Act.put, List.setIfInBounds_toArray, List.set_cons_zero, List.set_cons_succ]
                    refine wpAnyIn_ready (rs := [7]) (by kernel_rfl) (by simp) ?_
                    refine AllReadyIn.cons (o := _) rfl (fun K hK => ?_) AllReadyIn.nil
                    go_simp
                    refine hK _ _ ?_
                    clear hK K
                    try simp only [List.getElem_toArray, List.getElem_cons_zero, List.getElem_cons_succ, Act.put, List.setIfInBounds_toArray, List.set_cons_zero, List.set_cons_succ]
                    refine wpAnyIn_done (by kernel_rfl) ?_ _
                    gi_wp2_with fail
                    exact ⟨HG.out.1, HG.out.2.1, rfl, HG.out.2.2.2⟩
                exact AllReadyIn.nil
              exact AllReadyIn.nil
            refine AllReadyIn.cons (o := _) rfl (fun K hK => ?_) ?_
            · go_simp
              refine ⟨by simp [Fence.wide], (CallsIn.inRound l' (callsIn_wide.2 CC.out)).mono ?_⟩
              rintro e w8 ⟨⟨m1, m2, m3, m4, m5, m6⟩, rfl, hv8, hb8⟩
              have HV8 := Lib.hid hv8
              have HB8 := Lib.hid hb8
              have c8 : w8.cell? ⟨W.heap.size, 0, none⟩ = some (.func (.yield l) #[] #[]) := (hb8.cell (p := ⟨W.heap.size, 0, none⟩) (World.block_lt_of_cell? _ _ cy)).trans cy
              clear hv8 hb8
              simp only [Nd.val]
              refine hK _ _ ?_
              clear hK K
              try simp only [List.getElem_toArray, List.getElem_cons_zero, List.getElem_cons_succ, Act.put, List.setIfInBounds_toArray, List.set_cons_zero, List.set_cons_succ]
              refine wpAnyIn_ready (rs := [1]) (by kernel_rfl) (by simp) ?_
              refine AllReadyIn.cons (o := _) rfl (fun K hK => ?_) ?_
              · go_simp
                refine hK _ _ ?_
                clear hK K
                try simp only [List.getElem_toArray, List.getElem_cons_zero, List.getElem_cons_succ, Act.put, List.setIfInBounds_toArray, List.set_cons_zero, List.set_cons_succ]
                refine wpAnyIn_ready (rs := [6]) (by kernel_rfl) (by simp) ?_
                refine AllReadyIn.cons (o := _) rfl (fun K hK => ?_) ?_
                · obtain ⟨fn, tmps, assign, body, hy, hR⟩ := HYY.out _ _ HB8.out HV8.out
                  dsimp only [encY, Nd.val] at hy
                  go_simp
                  refine ⟨by simp [Fence.wide], RoundIn.mono (F := Fence.wide.inRound l') hR ?_⟩
                  rintro e W3 ⟨C', hf', hbd', hc', hE⟩
                  obtain ⟨hT, hF⟩ := HFIN.out _ _ _ _ HB8.out HV8.out hf' hbd' hc'
                  have HT := Lib.hid hT
                  have HF := Lib.hid hF
                  clear hR hy hf' hbd' hc' hT hF c8 cy
                  rcases hE with ⟨rfl, hJ3⟩ | ⟨rfl, hJ3⟩
                  · have HG := Lib.hid (HT.out hJ3)
                    clear hJ3 HT HF
                    refine hK _ _ ?_
                    clear hK K
                    try simp only [List.getElem_toArray, List.getElem_cons_zero, List.getElem_cons_succ, Act.put, List.setIfInBounds_toArray, List.set_cons_zero, List.set_cons_succ]
                    refine wpAnyIn_ready (rs := [7]) (by kernel_rfl) (by simp) ?_
                    refine AllReadyIn.cons (o := _) rfl (fun K hK => ?_) AllReadyIn.nil
                    go_simp
                    refine hK _ _ ?_
                    clear hK K
                    try simp only [List.getElem_toArray, List.getElem_cons_zero, List.getElem_cons_succ, Act.put, List.setIfInBounds_toArray, List.set_cons_zero, List.set_cons_succ]
                    refine wpAnyIn_done (by kernel_rfl) ?_ _
                    gi_wp2_with fail
                    exact HG.out
                  · have HG := Lib.hid (HF.out hJ3)
                    clear hJ3 HT HF
                    refine hK _ _ ?_
                    clear hK K
                    try simp only [List.getElem_toArray, List.getElem_cons_zero, List.getElem_cons_succ, Act.put, List.setIfInBounds_toArray, List.set_cons_zero, List.set_cons_succ]
                    refine wpAnyIn_ready (rs := [7]) (by kernel_rfl) (by simp) ?_
                    refine AllReadyIn.cons (o := _) rfl (fun K hK => ?_) AllReadyIn.nil
                    go_simp
                    refine hK _ _ ?_
                    clear hK K
                    try simp only [List.getElem_toArray, List.getElem_cons_zero, List.getElem_cons_succ, Act.put, List.setIfInBounds_toArray, List.set_cons_zero, List.set_cons_succ]
                    refine wpAnyIn_done (by kernel_rfl) ?_ _
                    gi_wp2_with fail
                    exact ⟨HG.out.1, HG.out.2.1, rfl, HG.out.2.2.2⟩
                exact AllReadyIn.nil
              exact AllReadyIn.nil
            exact AllReadyIn.nil
          refine AllReadyIn.cons (o := _) rfl (fun K hK => ?_) ?_
          · go_simp
            refine hK _ _ ?_
            clear hK K
            try simp only [List.getElem_toArray, List.getElem_cons_zero, List.getElem_cons_succ, Act.put, List.setIfInBounds_toArray, List.set_cons_zero, List.set_cons_succ]
            refine wpAnyIn_ready (rs := [0, 5]) (by kernel_rfl) (by simp) ?_
            refine AllReadyIn.cons (o := _) rfl (fun K hK => ?_) ?_
            · go_simp
              refine hK _ _ ?_
              clear hK K
              try simp only [List.getElem_toArray, List.getElem_cons_zero, List.getElem_cons_succ, Act.put, List.setIfInBounds_toArray, List.set_cons_zero, List.set_cons_succ]
              refine wpAnyIn_ready (rs := [5]) (by kernel_rfl) (by simp) ?_
              refine AllReadyIn.cons (o := _) rfl (fun K hK => ?_) ?_
              · go_simp
                refine ⟨by simp [Fence.wide], (CallsIn.inRound l' (callsIn_wide.2 CC.out)).mono ?_⟩
                rintro e w8 ⟨⟨m1, m2, m3, m4, m5, m6⟩, rfl, hv8, hb8⟩
                have HV8 := Lib.hid hv8
                have HB8 := Lib.hid hb8
                have c8 : w8.cell? ⟨W.heap.size, 0, none⟩ = some (.func (.yield l) #[] #[]) := (hb8.cell (p := ⟨W.heap.size, 0, none⟩) (World.block_lt_of_cell? _ _ cy)).trans cy
                clear hv8 hb8
                simp only [Nd.val]
                refine hK _ _ ?_
                clear hK K
                try simp only [List.getElem_toArray, List.getElem_cons_zero, List.getElem_cons_succ, Act.put, List.setIfInBounds_toArray, List.set_cons_zero, List.set_cons_succ]
                refine wpAnyIn_ready (rs := [6]) (by kernel_rfl) (by simp) ?_
                refine AllReadyIn.cons (o := _) rfl (fun K hK => ?_) ?_
                · obtain ⟨fn, tmps, assign, body, hy, hR⟩ := HYY.out _ _ HB8.out HV8.out
                  dsimp only [encY, Nd.val] at hy
                  go_simp
                  refine ⟨by simp [Fence.wide], RoundIn.mono (F := Fence.wide.inRound l') hR ?_⟩
                  rintro e W3 ⟨C', hf', hbd', hc', hE⟩
                  obtain ⟨hT, hF⟩ := HFIN.out _ _ _ _ HB8.out HV8.out hf' hbd' hc'
                  have HT := Lib.hid hT
                  have HF := Lib.hid hF
                  clear hR hy hf' hbd' hc' hT hF c8 cy
                  rcases hE with ⟨rfl, hJ3⟩ | ⟨rfl, hJ3⟩
                  · have HG := Lib.hid (HT.out hJ3)
                    clear hJ3 HT HF
                    refine hK _ _ ?_
                    clear hK K
                    try simp only [List.getElem_toArray, List.getElem_cons_zero, List.getElem_cons_succ, Act.put, List.setIfInBounds_toArray, List.set_cons_zero, List.set_cons_succ]
                    refine wpAnyIn_ready (rs := [7]) (by kernel_rfl) (by simp) ?_
                    refine AllReadyIn.cons (o := _) rfl (fun K hK => ?_) AllReadyIn.nil
                    go_simp
                    refine hK _ _ ?_
                    clear hK K
                    try simp only [List.getElem_toArray, List.getElem_cons_zero, List.getElem_cons_succ, Act.put, List.setIfInBounds_toArray, List.set_cons_zero, List.set_cons_succ]
                    refine wpAnyIn_done (by kernel_rfl) ?_ _
                    gi_wp2_with fail
                    exact HG.out
                  · have HG := Lib.hid (HF.out hJ3)
                    clear hJ3 HT HF
                    refine hK _ _ ?_
                    clear hK K
                    try simp only [List.getElem_toArray, List.getElem_cons_zero, List.getElem_cons_succ, Act.put, List.setIfInBounds_toArray, List.set_cons_zero, List.set_cons_succ]
                    refine wpAnyIn_ready (rs := [7]) (by kernel_rfl) (by simp) ?_
                    refine AllReadyIn.cons (o := _) rfl (fun K hK => ?_) AllReadyIn.nil
                    go_simp
                    refine hK _ _ ?_
                    clear hK K
                    try simp only [List.getElem_toArray, List.getElem_cons_zero, List.getElem_cons_succ, Act.put, List.setIfInBounds_toArray, List.set_cons_zero, List.set_cons_succ]
                    refine wpAnyIn_done (by kernel_rfl) ?_ _
                    gi_wp2_with fail
                    exact ⟨HG.out.1, HG.out.2.1, rfl, HG.out.2.2.2⟩
                exact AllReadyIn.nil
              exact AllReadyIn.nil
            refine AllReadyIn.cons (o := _) rfl (fun K hK => ?_) ?_
            · go_simp
              refine ⟨by simp [Fence.wide], (CallsIn.inRound l' (callsIn_wide.2 CC.out)).mono ?_⟩
              rintro e w8 ⟨⟨m1, m2, m3, m4, m5, m6⟩, rfl, hv8, hb8⟩
              have HV8 := Lib.hid hv8
              have HB8 := Lib.hid hb8
              have c8 : w8.cell? ⟨W.heap.size, 0, none⟩ = some (.func (.yield l) #[] #[]) := (hb8.cell (p := ⟨W.heap.size, 0, none⟩) (World.block_lt_of_cell? _ _ cy)).trans cy
              clear hv8 hb8
              simp only [Nd.val]
              refine hK _ _ ?_
              clear hK K
              try simp only [List.getElem_toArray, List.getElem_cons_zero, List.getElem_cons_succ, Act.put, List.setIfInBounds_toArray, List.set_cons_zero, List.set_cons_succ]
              refine wpAnyIn_ready (rs := [0]) (by kernel_rfl) (by simp) ?_
              refine AllReadyIn.cons (o := _) rfl (fun K hK => ?_) ?_
              · go_simp
                refine hK _ _ ?_
                clear hK K
                try simp only [List.getElem_toArray, List.getElem_cons_zero, List.getElem_cons_succ, Act.put, List.setIfInBounds_toArray, List.set_cons_zero, List.set_cons_succ]
                refine wpAnyIn_ready (rs := [6]) (by kernel_rfl) (by simp) ?_
                refine AllReadyIn.cons (o := _) rfl (fun K hK => ?_) ?_
                · obtain ⟨fn, tmps, assign, body, hy, hR⟩ := HYY.out _ _ HB8.out HV8.out
                  dsimp only [encY, Nd.val] at hy
                  go_simp
                  refine ⟨by simp [Fence.wide], RoundIn.mono (F := Fence.wide.inRound l') hR ?_⟩
                  rintro e W3 ⟨C', hf', hbd', hc', hE⟩
                  obtain ⟨hT, hF⟩ := HFIN.out _ _ _ _ HB8.out HV8.out hf' hbd' hc'
                  have HT := Lib.hid hT
                  have HF := Lib.hid hF
                  clear hR hy hf' hbd' hc' hT hF c8 cy
                  rcases hE with ⟨rfl, hJ3⟩ | ⟨rfl, hJ3⟩
                  · have HG := Lib.hid (HT.out hJ3)
                    clear hJ3 HT HF
                    refine hK _ _ ?_
                    clear hK K
                    try simp only [List.getElem_toArray, List.getElem_cons_zero, List.getElem_cons_succ, Act.put, List.setIfInBounds_toArray, List.set_cons_zero, List.set_cons_succ]
                    refine wpAnyIn_ready (rs := [7]) (by kernel_rfl) (by simp) ?_
                    refine AllReadyIn.cons (o := _) rfl (fun K hK => ?_) AllReadyIn.nil
                    go_simp
                    refine hK _ _ ?_
                    clear hK K
                    try simp only [List.getElem_toArray, List.getElem_cons_zero, List.getElem_cons_succ, Act.put, List.setIfInBounds_toArray, List.set_cons_zero, List.set_cons_succ]
                    refine wpAnyIn_done (by kernel_rfl) ?_ _
                    gi_wp2_with fail
                    exact HG.out
                  · have HG := Lib.hid (HF.out hJ3)
                    clear hJ3 HT HF
                    refine hK _ _ ?_
                    clear hK K
                    try simp only [List.getElem_toArray, List.getElem_cons_zero, List.getElem_cons_succ, Act.put, List.setIfInBounds_toArray, List.set_cons_zero, List.set_cons_succ]
                    refine wpAnyIn_ready (rs := [7]) (by kernel_rfl) (by simp) ?_
                    refine AllReadyIn.cons (o := _) rfl (fun K hK => ?_) AllReadyIn.nil
                    go_simp
                    refine hK _ _ ?_
                    clear hK K
                    try simp only [List.getElem_toArray, List.getElem_cons_zero, List.getElem_cons_succ, Act.put, List.setIfInBounds_toArray, List.set_cons_zero, List.set_cons_succ]
                    refine wpAnyIn_done (by kernel_rfl) ?_ _
                    gi_wp2_with fail
                    exact ⟨HG.out.1, HG.out.2.1, rfl, HG.out.2.2.2⟩
                exact AllReadyIn.nil
              exact AllReadyIn.nil
            exact AllReadyIn.nil
          refine AllReadyIn.cons (o := _) rfl (fun K hK => ?_) ?_
          · go_simp
            refine ⟨by simp [Fence.wide], (CallsIn.inRound l' (callsIn_wide.2 CC.out)).mono ?_⟩
            rintro e w8 ⟨⟨m1, m2, m3, m4, m5, m6⟩, rfl, hv8, hb8⟩
            have HV8 := Lib.hid hv8
            have HB8 := Lib.hid hb8
            have c8 : w8.cell? ⟨W.heap.size, 0, none⟩ = some (.func (.yield l) #[] #[]) := (hb8.cell (p := ⟨W.heap.size, 0, none⟩) (World.block_lt_of_cell? _ _ cy)).trans cy
            clear hv8 hb8
            simp only [Nd.val]
            refine hK _ _ ?_
            clear hK K
            try simp only [List.getElem_toArray, List.getElem_cons_zero, List.getElem_cons_succ, Act.put, List.setIfInBounds_toArray, List.set_cons_zero, List.set_cons_succ]
            refine wpAnyIn_ready (rs := [0, 1]) (by kernel_rfl) (by simp) ?_
            refine AllReadyIn.cons (o := _) rfl (fun K hK => ?_) ?_
            · go_simp
              refine hK _ _ ?_
              clear hK K
              try simp only [List.getElem_toArray, List.getElem_cons_zero, List.getElem_cons_succ, Act.put, List.setIfInBounds_toArray, List.set_cons_zero, List.set_cons_succ]
              refine wpAnyIn_ready (rs := [1]) (by kernel_rfl) (by simp) ?_
              refine AllReadyIn.cons (o := _) rfl (fun K hK => ?_) ?_
              · go_simp
                refine hK _ _ ?_
                clear hK K
                try simp only [List.getElem_toArray, List.getElem_cons_zero, List.getElem_cons_succ, Act.put, List.setIfInBounds_toArray, List.set_cons_zero, List.set_cons_succ]
                refine wpAnyIn_ready (rs := [6]) (by kernel_rfl) (by simp) ?_
                refine AllReadyIn.cons (o := _) rfl (fun K hK => ?_) ?_
                · obtain ⟨fn, tmps, assign, body, hy, hR⟩ := HYY.out _ _ HB8.out HV8.out
                  dsimp only [encY, Nd.val] at hy
                  go_simp
                  refine ⟨by simp [Fence.wide], RoundIn.mono (F := Fence.wide.inRound l') hR ?_⟩
                  rintro e W3 ⟨C', hf', hbd', hc', hE⟩
                  obtain ⟨hT, hF⟩ := HFIN.out _ _ _ _ HB8.out HV8.out hf' hbd' hc'
                  have HT := Lib.hid hT
                  have HF := Lib.hid hF
                  clear hR hy hf' hbd' hc' hT hF c8 cy
                  rcases hE with ⟨rfl, hJ3⟩ | ⟨rfl, hJ3⟩
                  · have HG := Lib.hid (HT.out hJ3)
                    clear hJ3 HT HF
                    refine hK _ _ ?_
                    clear hK K
                    try simp only [List.getElem_toArray, List.getElem_cons_zero, List.getElem_cons_succ, Act.put, List.setIfInBounds_toArray, List.set_cons_zero, List.set_cons_succ]
                    refine wpAnyIn_ready (rs := [7]) (by kernel_rfl) (by simp) ?_
                    refine AllReadyIn.cons (o := _) rfl (fun K hK => ?_) AllReadyIn.nil
                    go_simp
                    refine hK _ _ ?_
                    clear hK K
                    try simp only [List.getElem_toArray, List.getElem_cons_zero, List.getElem_cons_succ, Act.put, List.setIfInBounds_toArray, List.set_cons_zero, List.set_cons_succ]
                    refine wpAnyIn_done (by kernel_rfl) ?_ _
                    gi_wp2_with fail
                    exact HG.out
                  · have HG := Lib.hid (HF.out hJ3)
                    clear hJ3 HT HF
                    refine hK _ _ ?_
                    clear hK K
                    try simp only [List.getElem_toArray, List.getElem_cons_zero, List.getElem_cons_succ, Act.put, List.setIfInBounds_toArray, List.set_cons_zero, List.set_cons_succ]
                    refine wpAnyIn_ready (rs := [7]) (by kernel_rfl) (by simp) ?_
                    refine AllReadyIn.cons (o := _) rfl (fun K hK => ?_) AllReadyIn.nil
                    go_simp
                    refine hK _ _ ?_
                    clear hK K
                    try simp only [List.getElem_toArray, List.getElem_cons_zero, List.getElem_cons_succ, Act.put, List.setIfInBounds_toArray, List.set_cons_zero, List.set_cons_succ]
                    refine wpAnyIn_done (by kernel_rfl) ?_ _
                    gi_wp2_with fail
                    exact ⟨HG.out.1, HG.out.2.1, rfl, HG.out.2.2.2⟩
                exact AllReadyIn.nil
              exact AllReadyIn.nil
            refine AllReadyIn.cons (o := _) rfl (fun K hK => ?_) ?_
            · go_simp
              refine hK _ _ ?_
              clear hK K
              try simp only [List.getElem_toArray, List.getElem_cons_zero, List.getElem_cons_succ, Act.put, List.setIfInBounds_toArray, List.set_cons_zero, List.set_cons_succ]
              refine wpAnyIn_ready (rs := [0]) (by kernel_rfl) (by simp) ?_
              refine AllReadyIn.cons (o := _) rfl (fun K hK => ?_) ?_
              · go_simp
                refine hK _ _ ?_
                clear hK K
                try simp only [List.getElem_toArray, List.getElem_cons_zero, List.getElem_cons_succ, Act.put, List.setIfInBounds_toArray, List.set_cons_zero, List.set_cons_succ]
                refine wpAnyIn_ready (rs := [6]) (by kernel_rfl) (by simp) ?_
                refine AllReadyIn.cons (o := _) rfl (fun K hK => ?_) ?_
                · obtain ⟨fn, tmps, assign, body, hy, hR⟩ := HYY.out _ _ HB8.out HV8.out
                  dsimp only [encY, Nd.val] at hy
                  go_simp
                  refine ⟨by simp [Fence.wide], RoundIn.mono (F := Fence.wide.inRound l') hR ?_⟩
                  rintro e W3 ⟨C', hf', hbd', hc', hE⟩
                  obtain ⟨hT, hF⟩ := HFIN.out _ _ _ _ HB8.out HV8.out hf' hbd' hc'
                  have HT := Lib.hid hT
                  have HF := Lib.hid hF
                  clear hR hy hf' hbd' hc' hT hF c8 cy
                  rcases hE with ⟨rfl, hJ3⟩ | ⟨rfl, hJ3⟩
                  · have HG := Lib.hid (HT.out hJ3)
                    clear hJ3 HT HF
                    refine hK _ _ ?_
                    clear hK K
                    try simp only [List.getElem_toArray, List.getElem_cons_zero, List.getElem_cons_succ, Act.put, List.setIfInBounds_toArray, List.set_cons_zero, List.set_cons_succ]
                    refine wpAnyIn_ready (rs := [7]) (by kernel_rfl) (by simp) ?_
                    refine AllReadyIn.cons (o := _) rfl (fun K hK => ?_) AllReadyIn.nil
                    go_simp
                    refine hK _ _ ?_
                    clear hK K
                    try simp only [List.getElem_toArray, List.getElem_cons_zero, List.getElem_cons_succ, Act.put, List.setIfInBounds_toArray, List.set_cons_zero, List.set_cons_succ]
                    refine wpAnyIn_done (by kernel_rfl) ?_ _
                    gi_wp2_with fail
                    exact HG.out
                  · have HG := Lib.hid (HF.out hJ3)
                    clear hJ3 HT HF
                    refine hK _ _ ?_
                    clear hK K
                    try simp only [List.getElem_toArray, List.getElem_cons_zero, List.getElem_cons_succ, Act.put, List.setIfInBounds_toArray, List.set_cons_zero, List.set_cons_succ]
                    refine wpAnyIn_ready (rs := [7]) (by kernel_rfl) (by simp) ?_
                    refine AllReadyIn.cons (o := _) rfl (fun K hK => ?_) AllReadyIn.nil
                    go_simp
                    refine hK _ _ ?_
                    clear hK K
                    try simp only [List.getElem_toArray, List.getElem_cons_zero, List.getElem_cons_succ, Act.put, List.setIfInBounds_toArray, List.set_cons_zero, List.set_cons_succ]
                    refine wpAnyIn_done (by kernel_rfl) ?_ _
                    gi_wp2_with fail
                    exact ⟨HG.out.1, HG.out.2.1, rfl, HG.out.2.2.2⟩
                exact AllReadyIn.nil
              exact AllReadyIn.nil
            exact AllReadyIn.nil
          exact AllReadyIn.nil
        exact AllReadyIn.nil
      exact AllReadyIn.nil
    exact AllReadyIn.nil
  case done =>
    rintro D xs6 W6 rfl ⟨C, xs, hxs, hJ6, hc6, hC, hCz⟩ hkp rfl hD
    have HD := Lib.hid hD
    have hne : ¬ C w5.heap.size := fun hc => by
      have := HB5.out.size
      rcases hC _ hc with h | h
      · have := HC0.out _ h; omega
      · omega
    have HR : Hid (Came C0 W (W6.putObj w5.heap.size (.deferred none)) ∧ ((∃ xs C, xs.map keyY = flatT 0 (er a) ∧ J xs C (W6.putObj w5.heap.size (.deferred none))) ∨ (∃ pre C, pre.map keyY <+: flatT 0 (er a) ∧ Jx pre C (W6.putObj w5.heap.size (.deferred none))))) := Lib.hid ⟨
      ((Came.of_below HB5.out (Nat.le_refl _)).trans hc6 (fun k h => .inl h)).trans ⟨rfl, rfl, rfl, by rw [World.putObj_size]; exact Nat.le_refl _, fun k hk hn => World.putObj_heap_other hn⟩ (C' := fun k => k = w5.heap.size) (fun k h => .inr (by have := HB5.out.size; omega)),
      .inl ⟨xs, C, by rw [hxs]; exact HKF.out, HJm.out _ _ _ _ hJ6 (same_put _ _ _ hne)⟩⟩
    clear hxs hJ6 hc6 hC hCz hkp hD hne
    gi_wp2_with fail
    refine ⟨by simp, .inl ⟨_, _, rfl, run_takeDeferred HD.out, ?_⟩⟩
    refine ⟨.tuple #[], ?_, ⟨_, rfl⟩, HR.out⟩
    simp [results, Tryd.results27, go_sem]
  case stop =>
    rintro D c pre W6 hpre ⟨rfl, C, xs, hxs, hJ6, hc6, hC⟩ hkp rfl hD
    have HD := Lib.hid hD
    have hne : ¬ C w5.heap.size := fun hc => by
      have := HB5.out.size
      rcases hC _ hc with h | h
      · have := HC0.out _ h; omega
      · omega
    have HR : Hid (Came C0 W (W6.putObj w5.heap.size (.deferred none)) ∧ ((∃ xs C, xs.map keyY = flatT 0 (er a) ∧ J xs C (W6.putObj w5.heap.size (.deferred none))) ∨ (∃ pre C, pre.map keyY <+: flatT 0 (er a) ∧ Jx pre C (W6.putObj w5.heap.size (.deferred none))))) := Lib.hid ⟨
      ((Came.of_below HB5.out (Nat.le_refl _)).trans hc6 (fun k h => .inl h)).trans ⟨rfl, rfl, rfl, by rw [World.putObj_size]; exact Nat.le_refl _, fun k hk hn => World.putObj_heap_other hn⟩ (C' := fun k => k = w5.heap.size) (fun k h => .inr (by have := HB5.out.size; omega)),
      .inr ⟨xs, C, by rw [hxs, ← HKF.out]; exact hpre.map keyF, HJx.out _ _ _ _ hJ6 (same_put _ _ _ hne)⟩⟩
    clear hxs hJ6 hc6 hC hkp hD hne
    gi_wp2_with fail
    refine ⟨by simp, .inl ⟨_, _, rfl, run_takeDeferred HD.out, ?_⟩⟩
    refine ⟨.tuple #[], ?_, ⟨_, rfl⟩, HR.out⟩
    simp [results, Tryd.results27, go_sem]
end Go.Proofs.YtgahamppfdhnaaaDoor
