/-
  CONTRACTS of layer 9's gather, often, thing: nodes as one, what a sign makes, one thing.
-/
import Derived.Test.YtmlpkimbcjkbkaaGreatDoorRgSet
namespace Go.Proofs.YtmlpkimbcjkbkaaGreatDoor
open Go.RowKit

def gatherN (k : Int) (p : Option Addr) (n c : Nat) : List Nd → Nd
  | [] => Nd.zero
  | [x] => x
  | _ => ⟨k, W4.zero, p, n, c⟩
set_option maxHeartbeats 2000000 in
theorem rgather_any (k : Nat) (p : Option Addr) (c : Nat) (nds : List Nd) (w : World) (h : w.ownsRow 0 45 6 (.slice p nds.length c) nds.length (ndRow nds)) (hn : nds.length ≤ 100000) :
    Calls Tryz.prog 71 #[.int .i64 (k : Int), .slice p nds.length c] w fun e w' => e = .returned (gatherN k p nds.length c nds).val ∧ Below w.heap.size w w' := by
  have hZ := BlkN.new w
  obtain ⟨d0, d1, d2, d3, d4, d5, k0, k1, k2, k3, k4, k5⟩ := hZ.cells
  rcases nds with _ | ⟨x, _ | ⟨y, nds⟩⟩
  · rw [show gatherN k p ([] : List Nd).length c [] = Nd.zero from rfl]
    rw [show (([] : List Nd).length) = 0 from rfl]
    clear h hZ
    go_enter Tryz.func71, Tryz.ntmps71
    go_wp2
    exact bodyPost_ret (v := Nd.zero.val) (by simp [results, Tryz.results71, go_sem, Nd.val, Nd.zero, W4.zero]) rfl ⟨rfl, (Below.refl _ _).alloc (Nat.le_refl _) _⟩
  · obtain ⟨g, c', hv, hc⟩ := rg_own_succ (n := 0) h
    rw [show [x].length = 1 from rfl] at *
    obtain ⟨rfl, rfl⟩ : p = some ⟨g, 0, none⟩ ∧ c = c' := by simpa using hv
    clear hv
    have hg : g < w.heap.size := (rg_own_base h g rfl).2
    have q : ∀ j, j < 6 → w.cell? ⟨g, j, none⟩ = x.vals[j]? := fun j hj => by
      rw [h.cellAt j (by show j < 1 * 6; omega)]
      have := ndRow_get [x] 0 j (by simp) hj
      rw [show 0 * 6 + j = j from by omega] at this
      exact this
    have q0 : w.cell? ⟨g, 0, none⟩ = some (.int .i64 x.op) := q 0 (by omega)
    have q1 : w.cell? ⟨g, 1, none⟩ = some (.int .u64 x.set.a) := q 1 (by omega)
    have q2 : w.cell? ⟨g, 2, none⟩ = some (.int .u64 x.set.b) := q 2 (by omega)
    have q3 : w.cell? ⟨g, 3, none⟩ = some (.int .u64 x.set.c) := q 3 (by omega)
    have q4 : w.cell? ⟨g, 4, none⟩ = some (.int .u64 x.set.d) := q 4 (by omega)
    have q5 : w.cell? ⟨g, 5, none⟩ = some (.slice x.kp x.kn x.kc) := q 5 (by omega)
    rw [show gatherN k (some ⟨g, 0, none⟩) 1 c [x] = x from rfl]
    clear h hZ q
    go_enter Tryz.func71, Tryz.ntmps71
    go_wp2
    exact bodyPost_ret (v := x.val) (by simp [results, Tryz.results71, go_sem, Nd.val]) rfl ⟨rfl, (Below.refl _ _).alloc (Nat.le_refl _) _⟩
  · rw [show gatherN k p (x :: y :: nds).length c (x :: y :: nds) = ⟨k, W4.zero, p, (x :: y :: nds).length, c⟩ from rfl]
    obtain ⟨n, hn2⟩ : ∃ n, (x :: y :: nds).length = n := ⟨_, rfl⟩
    have hn3 : 2 ≤ n := by rw [← hn2]; simp
    rw [hn2] at hn ⊢
    have e0 : ((n : Int) == 0) = false := by rw [Bool.eq_false_iff]; simp; omega
    have e1 : ((n : Int) == 1) = false := by rw [Bool.eq_false_iff]; simp; omega
    clear h hZ hn2
    go_enter Tryz.func71, Tryz.ntmps71
    go_wp2
    exact bodyPost_ret (v := (⟨k, W4.zero, p, n, c⟩ : Nd).val) (by simp [results, Tryz.results71, go_sem, Nd.val, W4.zero]) rfl ⟨rfl, (Below.refl _ _).alloc (Nat.le_refl _) _⟩
theorem roften_any (c : UInt8) (w : World) : Calls Tryz.prog 93 #[.int .u8 (c.toNat : Int)] w fun e w' => e = .returned (.int .i64 (oftenR c : Int)) ∧ w = w' := by
  have key : ∀ x : Nat, oftenR c = x → Hid (Calls Tryz.prog 93 #[.int .u8 (c.toNat : Int)] w fun e w' => e = .returned (.int .i64 (x : Int)) ∧ w = w') → Calls Tryz.prog 93 #[.int .u8 (c.toNat : Int)] w fun e w' => e = .returned (.int .i64 (oftenR c : Int)) ∧ w = w' := fun x h k => by rw [h]; exact k.out
  by_cases h1 : c = 42
  · subst h1
    refine key 4 rfl (Lib.hid ?_)
    rw [show (((42 : UInt8).toNat : Nat) : Int) = 42 from rfl]
    go_enter Tryz.func93, Tryz.ntmps93
    go_wp2
    go_ret
    exact ⟨rfl, rfl⟩
  · by_cases h2 : c = 43
    · subst h2
      refine key 5 rfl (Lib.hid ?_)
      rw [show (((43 : UInt8).toNat : Nat) : Int) = 43 from rfl]
      go_enter Tryz.func93, Tryz.ntmps93
      go_wp2
      go_ret
      exact ⟨rfl, rfl⟩
    · refine key 6 (by unfold oftenR; rw [if_neg h1, if_neg h2]) (Lib.hid ?_)
      have n1 : ¬ c.toNat = 42 := fun e => h1 (UInt8.toNat_inj.1 e)
      have n2 : ¬ c.toNat = 43 := fun e => h2 (UInt8.toNat_inj.1 e)
      have g1 : ((c.toNat : Int) == 42) = false := by rw [Bool.eq_false_iff]; simp; omega
      have g2 : ((c.toNat : Int) == 43) = false := by rw [Bool.eq_false_iff]; simp; omega
      clear key h1 h2
      go_enter Tryz.func93, Tryz.ntmps93
      go_wp2
      go_ret
      exact ⟨rfl, rfl⟩
/-- What a call of group does, of a text behind its bracket. -/
def GrpOk (b : Nat) (s : ByteArray) (op : Nat) (G : List UInt8 → PR RT) : Prop := ∀ (r : List UInt8) (W : World), Rg W b s (s.size - (r.length + 1)) op 0 0 → (40 :: r) <:+ s.data.toList →
  Calls Tryz.prog 104 #[.pointer (some ⟨b, 0, none⟩)] W (RdP (VN W.heap.size) GN b s op (G r) W)
/-- A tree that a callee handed back, stored as the result. -/
theorem VN.stored {w' : World} {g n0 : Nat} {t : RT} {nd : Nd} (h : TreeN w' (fun k => n0 ≤ k) t nd) (hg : g < n0) : VN g (put6 w' g nd) nd.val t :=
  ⟨nd, rfl, (h.put6 (fun k hk _ => by omega) nd).kept (fun _ _ _ => rfl) (fun k hk _ => by omega)⟩
set_option maxHeartbeats 8000000 in
set_option maxRecDepth 100000 in
theorem rthing_any (b : Nat) (s : ByteArray) (op : Nat) (G : List UInt8 → PR RT) (c : UInt8) (r : List UInt8) (w : World) (h : Rg w b s (s.size - (r.length + 1)) op 0 0) (hl : (c :: r) <:+ s.data.toList) (hs : s.size ≤ 100000) (hG : GrpOk b s op G) :
    Calls Tryz.prog 94 #[.pointer (some ⟨b, 0, none⟩)] w (RdP (VN w.heap.size) GN b s op (thingR withW notW orW G (c :: r)) w) := by
  have HB : Hid (b ≠ w.heap.size) := Lib.hid (by have := h.lt; omega)
  have hblt := h.lt
  obtain ⟨p, hp, hc, e1, e2, hr, hlen⟩ := rg_cons hl
  obtain ⟨c0, c1, c2, c3, c4, f1, f2, f3, f4⟩ := h.cells
  rw [e1] at c1
  have hpi : (p : Int) < (s.size : Int) := by omega
  have hpi2 : decide ((p : Int) < (s.size : Int)) = true := by simpa using hpi
  have hv : s[p] = c := hc
  have HL := Lib.hid (And.intro hr e2)
  have HR0 := Lib.hid h
  obtain ⟨NV, hNV⟩ : ∃ NV : Obj, NV = .cells #[.int .i64 0, .int .u64 0, .int .u64 0, .int .u64 0, .int .u64 0, .slice none 0 0] 45 := ⟨_, rfl⟩
  have GR := Lib.hid fun W (hc40 : c = 40) (H : Rg W b s (s.size - (r.length + 1)) op 0 0) => hG r W H (by rw [hc40] at hl; exact hl)
  have ST := Lib.hid fun W (hc91 : c = 91) (H : Rg W b s (s.size - (r.length + 1)) op 0 0) => rset_any b s op r W H (by rw [hc91] at hl; exact hl) hs
  have NX := Lib.hid fun W (H : Rg W b s (s.size - (r.length + 1)) op 0 0) => rnext_any b s op (c :: r) W H hl hs (by simp)
  have HE1 := Lib.hid e1
  have key : ∀ X, thingR withW notW orW G (c :: r) = X → Hid (Calls Tryz.prog 94 #[.pointer (some ⟨b, 0, none⟩)] w (RdP (VN w.heap.size) GN b s op X w)) → Calls Tryz.prog 94 #[.pointer (some ⟨b, 0, none⟩)] w (RdP (VN w.heap.size) GN b s op (thingR withW notW orW G (c :: r)) w) := fun X h k => by rw [h]; exact k.out
  have hcn : ∀ n : Nat, n < 256 → (c = UInt8.ofNat n ↔ c.toNat = n) := fun n hn => by rw [← UInt8.toNat_inj, UInt8.toNat_ofNat_of_lt' hn]
  have NT := Lib.hid rnot_x
  have WX := Lib.hid rwith_any
  clear h hl e1 e2 hr hG hNV NV hc
  by_cases h40 : c = 40
  · have b40 : (c.toNat : Int) = 40 := by rw [h40]; rfl
    cases hX : G r with
    | error x =>
      obtain ⟨bd, er⟩ := x
      refine key (.error (bd, er)) (by simp only [thingR]; rw [if_pos h40]; exact hX) (Lib.hid ?_)
      have CC := Lib.hid fun W H => GR.out W h40 H
      rw [hX] at CC
      clear key hcn hX GR ST NX
      go_enter Tryz.func94, Tryz.ntmps94
      go_wp2_with fail
      go_quiet (fail)
      clear hv
      have HRA := Lib.hid ((HR0.out.alloc (.cells #[.int .i64 0, .int .u64 0, .int .u64 0, .int .u64 0, .int .u64 0, .slice none 0 0] 45)).drewN nq)
      have HOA := Lib.hid (((Onl.refl b w).alloc (.cells #[.int .i64 0, .int .u64 0, .int .u64 0, .int .u64 0, .int .u64 0, .slice none 0 0] 45)).drewN (n := nq))
      have HNA := Lib.hid ((BlkN.new w).drewN nq)
      have hwz : ((w.alloc (.cells #[.int .i64 0, .int .u64 0, .int .u64 0, .int .u64 0, .int .u64 0, .slice none 0 0] 45)).drewN nq).heap.size = w.heap.size + 1 := by simp
      have HWZ := Lib.hid hwz
      clear hwz HR0
      generalize (w.alloc (.cells #[.int .i64 0, .int .u64 0, .int .u64 0, .int .u64 0, .int .u64 0, .slice none 0 0] 45)).drewN nq = w1 at *
      go_wp2_with fail
      refine (CC.out w1 HRA.out).mono ?_
      rintro e w2 ⟨her, hbd, v, rfl, ⟨nd, rfl⟩, hr2, o2⟩
      have HE := Lib.hid (And.intro her hbd)
      have HR2 := Lib.hid hr2
      have HO2 := Lib.hid (HOA.out.trans o2)
      have HN2 := Lib.hid (HNA.out.onl o2 (fun e => HB.out e.symm))
      clear her hbd hr2 o2
      unfold Nd.val
      obtain ⟨d0, d1, d2, d3, d4, d5, k0, k1, k2, k3, k4, k5⟩ := HN2.out.cells
      go_wp2_with fail
      exact bodyPost_ret (v := nd.val) (by simp [results, Tryz.results94, go_sem, Nd.val, d0, d1, d2, d3, d4, d5]) rfl ⟨HE.out.1, HE.out.2, _, rfl, ⟨_, rfl⟩, HR2.out.put6 (fun e => HB.out e.symm) nd, HO2.out.put6 (Nat.le_refl _) nd⟩
    | ok x =>
      obtain ⟨t, r2⟩ := x
      refine key (.ok (t, r2)) (by simp only [thingR]; rw [if_pos h40]; exact hX) (Lib.hid ?_)
      have CC := Lib.hid fun W H => GR.out W h40 H
      rw [hX] at CC
      clear key hcn hX GR ST NX
      go_enter Tryz.func94, Tryz.ntmps94
      go_wp2_with fail
      go_quiet (fail)
      clear hv
      have HRA := Lib.hid ((HR0.out.alloc (.cells #[.int .i64 0, .int .u64 0, .int .u64 0, .int .u64 0, .int .u64 0, .slice none 0 0] 45)).drewN nq)
      have HOA := Lib.hid (((Onl.refl b w).alloc (.cells #[.int .i64 0, .int .u64 0, .int .u64 0, .int .u64 0, .int .u64 0, .slice none 0 0] 45)).drewN (n := nq))
      have HNA := Lib.hid ((BlkN.new w).drewN nq)
      have hwz : ((w.alloc (.cells #[.int .i64 0, .int .u64 0, .int .u64 0, .int .u64 0, .int .u64 0, .slice none 0 0] 45)).drewN nq).heap.size = w.heap.size + 1 := by simp
      have HWZ := Lib.hid hwz
      clear hwz HR0
      generalize (w.alloc (.cells #[.int .i64 0, .int .u64 0, .int .u64 0, .int .u64 0, .int .u64 0, .slice none 0 0] 45)).drewN nq = w1 at *
      go_wp2_with fail
      refine (CC.out w1 HRA.out).mono ?_
      rintro e w2 ⟨hs2, v, rfl, ⟨nd, rfl, ht⟩, hr2, o2⟩
      rw [HWZ.out] at ht
      have HE := Lib.hid (And.intro hs2 ht)
      have HR2 := Lib.hid hr2
      have HO2 := Lib.hid (HOA.out.trans o2)
      have HN2 := Lib.hid (HNA.out.onl o2 (fun e => HB.out e.symm))
      clear hs2 ht hr2 o2
      unfold Nd.val
      obtain ⟨d0, d1, d2, d3, d4, d5, k0, k1, k2, k3, k4, k5⟩ := HN2.out.cells
      go_wp2_with fail
      exact bodyPost_ret (v := nd.val) (by simp [results, Tryz.results94, go_sem, Nd.val, d0, d1, d2, d3, d4, d5]) rfl ⟨HE.out.1, _, rfl, VN.stored HE.out.2 (Nat.lt_succ_self _), HR2.out.put6 (fun e => HB.out e.symm) nd, HO2.out.put6 (Nat.le_refl _) nd⟩
  have n40 : ¬ c.toNat = 40 := fun e => h40 (UInt8.toNat_inj.1 e)
  have g40 : ((c.toNat : Int) == 40) = false := by rw [Bool.eq_false_iff]; simp; omega
  by_cases h91 : c = 91
  · have b91 : (c.toNat : Int) = 91 := by rw [h91]; rfl
    cases hX : setR withW notW orW r with
    | error x =>
      obtain ⟨bd, er⟩ := x
      refine key (.error (bd, er)) (by simp only [thingR]; rw [if_neg h40, if_pos h91]; exact hX) (Lib.hid ?_)
      have CC := Lib.hid fun W H => ST.out W h91 H
      rw [hX] at CC
      clear key hcn hX GR ST NX
      go_enter Tryz.func94, Tryz.ntmps94
      go_wp2_with fail
      go_quiet (fail)
      clear hv
      have HRA := Lib.hid ((HR0.out.alloc (.cells #[.int .i64 0, .int .u64 0, .int .u64 0, .int .u64 0, .int .u64 0, .slice none 0 0] 45)).drewN nq)
      have HOA := Lib.hid (((Onl.refl b w).alloc (.cells #[.int .i64 0, .int .u64 0, .int .u64 0, .int .u64 0, .int .u64 0, .slice none 0 0] 45)).drewN (n := nq))
      have HNA := Lib.hid ((BlkN.new w).drewN nq)
      have hwz : ((w.alloc (.cells #[.int .i64 0, .int .u64 0, .int .u64 0, .int .u64 0, .int .u64 0, .slice none 0 0] 45)).drewN nq).heap.size = w.heap.size + 1 := by simp
      have HWZ := Lib.hid hwz
      clear hwz HR0
      generalize (w.alloc (.cells #[.int .i64 0, .int .u64 0, .int .u64 0, .int .u64 0, .int .u64 0, .slice none 0 0] 45)).drewN nq = w1 at *
      go_wp2_with fail
      refine (CC.out w1 HRA.out).mono ?_
      rintro e w2 ⟨her, hbd, v, rfl, ⟨nd, rfl⟩, hr2, o2⟩
      have HE := Lib.hid (And.intro her hbd)
      have HR2 := Lib.hid hr2
      have HO2 := Lib.hid (HOA.out.trans o2)
      have HN2 := Lib.hid (HNA.out.onl o2 (fun e => HB.out e.symm))
      clear her hbd hr2 o2
      unfold Nd.val
      obtain ⟨d0, d1, d2, d3, d4, d5, k0, k1, k2, k3, k4, k5⟩ := HN2.out.cells
      go_wp2_with fail
      exact bodyPost_ret (v := nd.val) (by simp [results, Tryz.results94, go_sem, Nd.val, d0, d1, d2, d3, d4, d5]) rfl ⟨HE.out.1, HE.out.2, _, rfl, ⟨_, rfl⟩, HR2.out.put6 (fun e => HB.out e.symm) nd, HO2.out.put6 (Nat.le_refl _) nd⟩
    | ok x =>
      obtain ⟨t, r2⟩ := x
      refine key (.ok (t, r2)) (by simp only [thingR]; rw [if_neg h40, if_pos h91]; exact hX) (Lib.hid ?_)
      have CC := Lib.hid fun W H => ST.out W h91 H
      rw [hX] at CC
      clear key hcn hX GR ST NX
      go_enter Tryz.func94, Tryz.ntmps94
      go_wp2_with fail
      go_quiet (fail)
      clear hv
      have HRA := Lib.hid ((HR0.out.alloc (.cells #[.int .i64 0, .int .u64 0, .int .u64 0, .int .u64 0, .int .u64 0, .slice none 0 0] 45)).drewN nq)
      have HOA := Lib.hid (((Onl.refl b w).alloc (.cells #[.int .i64 0, .int .u64 0, .int .u64 0, .int .u64 0, .int .u64 0, .slice none 0 0] 45)).drewN (n := nq))
      have HNA := Lib.hid ((BlkN.new w).drewN nq)
      have hwz : ((w.alloc (.cells #[.int .i64 0, .int .u64 0, .int .u64 0, .int .u64 0, .int .u64 0, .slice none 0 0] 45)).drewN nq).heap.size = w.heap.size + 1 := by simp
      have HWZ := Lib.hid hwz
      clear hwz HR0
      generalize (w.alloc (.cells #[.int .i64 0, .int .u64 0, .int .u64 0, .int .u64 0, .int .u64 0, .slice none 0 0] 45)).drewN nq = w1 at *
      go_wp2_with fail
      refine (CC.out w1 HRA.out).mono ?_
      rintro e w2 ⟨hs2, v, rfl, ⟨nd, rfl, ht⟩, hr2, o2⟩
      rw [HWZ.out] at ht
      have HE := Lib.hid (And.intro hs2 ht)
      have HR2 := Lib.hid hr2
      have HO2 := Lib.hid (HOA.out.trans o2)
      have HN2 := Lib.hid (HNA.out.onl o2 (fun e => HB.out e.symm))
      clear hs2 ht hr2 o2
      unfold Nd.val
      obtain ⟨d0, d1, d2, d3, d4, d5, k0, k1, k2, k3, k4, k5⟩ := HN2.out.cells
      go_wp2_with fail
      exact bodyPost_ret (v := nd.val) (by simp [results, Tryz.results94, go_sem, Nd.val, d0, d1, d2, d3, d4, d5]) rfl ⟨HE.out.1, _, rfl, VN.stored HE.out.2 (Nat.lt_succ_self _), HR2.out.put6 (fun e => HB.out e.symm) nd, HO2.out.put6 (Nat.le_refl _) nd⟩
  have n91 : ¬ c.toNat = 91 := fun e => h91 (UInt8.toNat_inj.1 e)
  have g91 : ((c.toNat : Int) == 91) = false := by rw [Bool.eq_false_iff]; simp; omega
  by_cases h46 : c = 46
  · have b46 : (c.toNat : Int) = 46 := by rw [h46]; rfl
    refine key (.ok (.mk 1 (notW W4.zero) [], r)) (by simp only [thingR]; rw [if_neg h40]; rw [if_neg h91]; rw [if_pos h46]) (Lib.hid ?_)
    clear key hcn GR ST NX
    go_enter Tryz.func94, Tryz.ntmps94
    go_wp2_with fail
    go_quiet (fail)
    clear hv
    have hb0 : Hid (Onl b w ((((w.alloc (.cells #[.int .i64 0, .int .u64 0, .int .u64 0, .int .u64 0, .int .u64 0, .slice none 0 0] 45)).drewN nq)).setCell ⟨b, 1, none⟩ (.int .i64 ((p + 1 : Nat) : Int)))) := Lib.hid ((((Onl.refl b w).alloc _).drewN (n := nq)).setCell 1 _)
    have hr0 : Hid (Rg ((((w.alloc (.cells #[.int .i64 0, .int .u64 0, .int .u64 0, .int .u64 0, .int .u64 0, .slice none 0 0] 45)).drewN nq)).setCell ⟨b, 1, none⟩ (.int .i64 ((p + 1 : Nat) : Int))) b s (p + 1) op 0 0) := Lib.hid (((HR0.out.alloc _).drewN nq).setP (p + 1))
    have hn0 : Hid (BlkN ((((w.alloc (.cells #[.int .i64 0, .int .u64 0, .int .u64 0, .int .u64 0, .int .u64 0, .slice none 0 0] 45)).drewN nq)).setCell ⟨b, 1, none⟩ (.int .i64 ((p + 1 : Nat) : Int))) w.heap.size Nd.zero) := Lib.hid (((BlkN.new w).drewN nq).setNew (p := ⟨b, 1, none⟩) HB.out (.int .i64 ((p + 1 : Nat) : Int)))
    go_wp2_with fail
    rw [show ((p + 1 : Nat) : Int) = (p : Int) + 1 from rfl] at hb0 hr0 hn0
    generalize (((w.alloc (.cells #[.int .i64 0, .int .u64 0, .int .u64 0, .int .u64 0, .int .u64 0, .slice none 0 0] 45)).drewN nq)).setCell ⟨b, 1, none⟩ (.int .i64 ((p : Int) + 1)) = w1 at *
    refine (NT.out _ _ _ _ _).mono ?_
    rintro e w2 ⟨rfl, hb2⟩
    rw [show notW ⟨0, 0, 0, 0⟩ = notW W4.zero from rfl]
    obtain ⟨nz, hnz⟩ : ∃ nz, notW W4.zero = nz := ⟨_, rfl⟩
    rw [hnz]
    have HNZ := Lib.hid hnz
    clear hnz
    have HR2 := Lib.hid (hr0.out.below hb2)
    have HO2 := Lib.hid (hb0.out.trans (Onl.of_below hb2 (Nat.le_refl _)))
    have HN2 := Lib.hid (hn0.out.below hb2)
    clear hb2 hb0 hr0 hn0
    obtain ⟨d0, d1, d2, d3, d4, d5, k0, k1, k2, k3, k4, k5⟩ := HN2.out.cells
    go_wp2_with fail
    exact bodyPost_ret (v := (⟨1, nz, none, 0, 0⟩ : Nd).val) (by simp [results, Tryz.results94, go_sem, Nd.val, d0, d1, d2, d3, d4, d5]) rfl ⟨HL.out.1, _, rfl, ⟨_, rfl, by rw [HNZ.out]; exact TreeN.leaf _ _ 1 nz⟩, by rw [HL.out.2]; exact HR2.out.put6 (fun e => HB.out e.symm) ⟨1, nz, none, 0, 0⟩, HO2.out.put6 (Nat.le_refl _) ⟨1, nz, none, 0, 0⟩⟩
  have n46 : ¬ c.toNat = 46 := fun e => h46 (UInt8.toNat_inj.1 e)
  have g46 : ((c.toNat : Int) == 46) = false := by rw [Bool.eq_false_iff]; simp; omega
  by_cases h94 : c = 94
  · have b94 : (c.toNat : Int) = 94 := by rw [h94]; rfl
    refine key (.ok (.mk 7 W4.zero [], r)) (by simp only [thingR]; rw [if_neg h40]; rw [if_neg h91]; rw [if_neg h46]; rw [if_pos h94]) (Lib.hid ?_)
    clear key hcn GR ST NX
    go_enter Tryz.func94, Tryz.ntmps94
    go_wp2_with fail
    go_quiet (fail)
    clear hv
    have HF : Hid (RdP (VN w.heap.size) GN b s op (.ok (.mk 7 W4.zero [], r)) w (.returned (⟨7, W4.zero, none, 0, 0⟩ : Nd).val) (put6 ((((w.alloc (.cells #[.int .i64 0, .int .u64 0, .int .u64 0, .int .u64 0, .int .u64 0, .slice none 0 0] 45)).drewN nq)).setCell ⟨b, 1, none⟩ (.int .i64 ((p + 1 : Nat) : Int))) w.heap.size ⟨7, W4.zero, none, 0, 0⟩)) := Lib.hid (by
      refine ⟨HL.out.1, _, rfl, ⟨_, rfl, TreeN.leaf _ _ 7 _⟩, ?_, ?_⟩
      · rw [HL.out.2]
        exact Rg.put6 (((HR0.out.alloc _).drewN nq).setP (p + 1)) (fun e => HB.out e.symm) _
      · exact Onl.put6 ((((Onl.refl b w).alloc _).drewN (n := nq)).setCell 1 _) (Nat.le_refl _) _)
    go_wp2_with fail
    exact bodyPost_ret (v := (⟨7, W4.zero, none, 0, 0⟩ : Nd).val) (by simp [results, Tryz.results94, go_sem, Nd.val, W4.zero]) rfl HF.out
  have n94 : ¬ c.toNat = 94 := fun e => h94 (UInt8.toNat_inj.1 e)
  have g94 : ((c.toNat : Int) == 94) = false := by rw [Bool.eq_false_iff]; simp; omega
  by_cases h36 : c = 36
  · have b36 : (c.toNat : Int) = 36 := by rw [h36]; rfl
    refine key (.ok (.mk 8 W4.zero [], r)) (by simp only [thingR]; rw [if_neg h40]; rw [if_neg h91]; rw [if_neg h46]; rw [if_neg h94]; rw [if_pos h36]) (Lib.hid ?_)
    clear key hcn GR ST NX
    go_enter Tryz.func94, Tryz.ntmps94
    go_wp2_with fail
    go_quiet (fail)
    clear hv
    have HF : Hid (RdP (VN w.heap.size) GN b s op (.ok (.mk 8 W4.zero [], r)) w (.returned (⟨8, W4.zero, none, 0, 0⟩ : Nd).val) (put6 ((((w.alloc (.cells #[.int .i64 0, .int .u64 0, .int .u64 0, .int .u64 0, .int .u64 0, .slice none 0 0] 45)).drewN nq)).setCell ⟨b, 1, none⟩ (.int .i64 ((p + 1 : Nat) : Int))) w.heap.size ⟨8, W4.zero, none, 0, 0⟩)) := Lib.hid (by
      refine ⟨HL.out.1, _, rfl, ⟨_, rfl, TreeN.leaf _ _ 8 _⟩, ?_, ?_⟩
      · rw [HL.out.2]
        exact Rg.put6 (((HR0.out.alloc _).drewN nq).setP (p + 1)) (fun e => HB.out e.symm) _
      · exact Onl.put6 ((((Onl.refl b w).alloc _).drewN (n := nq)).setCell 1 _) (Nat.le_refl _) _)
    go_wp2_with fail
    exact bodyPost_ret (v := (⟨8, W4.zero, none, 0, 0⟩ : Nd).val) (by simp [results, Tryz.results94, go_sem, Nd.val, W4.zero]) rfl HF.out
  have n36 : ¬ c.toNat = 36 := fun e => h36 (UInt8.toNat_inj.1 e)
  have g36 : ((c.toNat : Int) == 36) = false := by rw [Bool.eq_false_iff]; simp; omega
  cases hX : nextR (c :: r) with
  | error x =>
    obtain ⟨bd, er⟩ := x
    refine key (.error (bd, er)) (by simp only [thingR]; rw [if_neg h40, if_neg h91, if_neg h46, if_neg h94, if_neg h36]; simp only [hX]) (Lib.hid ?_)
    have CC := NX
    rw [hX] at CC
    clear key hcn hX GR ST
    go_enter Tryz.func94, Tryz.ntmps94
    go_wp2_with fail
    go_quiet (fail)
    clear hv
    have HRA := Lib.hid ((HR0.out.alloc (.cells #[.int .i64 0, .int .u64 0, .int .u64 0, .int .u64 0, .int .u64 0, .slice none 0 0] 45)).drewN nq)
    have HOA := Lib.hid (((Onl.refl b w).alloc (.cells #[.int .i64 0, .int .u64 0, .int .u64 0, .int .u64 0, .int .u64 0, .slice none 0 0] 45)).drewN (n := nq))
    have HNA := Lib.hid ((BlkN.new w).drewN nq)
    have hwz : ((w.alloc (.cells #[.int .i64 0, .int .u64 0, .int .u64 0, .int .u64 0, .int .u64 0, .slice none 0 0] 45)).drewN nq).heap.size = w.heap.size + 1 := by simp
    have HWZ := Lib.hid hwz
    clear hwz HR0
    generalize (w.alloc (.cells #[.int .i64 0, .int .u64 0, .int .u64 0, .int .u64 0, .int .u64 0, .slice none 0 0] 45)).drewN nq = w1 at *
    go_wp2_with fail
    refine (CC.out w1 HRA.out).mono ?_
    rintro e w2 ⟨her, hbd, v, rfl, rfl, hr2, o2⟩
    have HE := Lib.hid (And.intro her hbd)
    have HR2 := Lib.hid hr2
    have HO2 := Lib.hid (HOA.out.trans o2)
    have HN2 := Lib.hid (HNA.out.onl o2 (fun e => HB.out e.symm))
    clear her hbd hr2 o2
    go_wp2_with fail
    refine (WX.out W4.zero (0 : UInt8) _).mono ?_
    obtain ⟨nz, hnz⟩ : ∃ nz, withW W4.zero 0 = nz := ⟨_, rfl⟩
    rw [hnz]
    rintro e w3 ⟨rfl, hb3⟩
    have HR3 := Lib.hid (HR2.out.below hb3)
    have HO3 := Lib.hid (HO2.out.trans (Onl.of_below hb3 (Nat.le_refl _)))
    have HN3 := Lib.hid (HN2.out.below hb3)
    clear hb3
    unfold W4.val
    obtain ⟨d0, d1, d2, d3, d4, d5, k0, k1, k2, k3, k4, k5⟩ := HN3.out.cells
    go_wp2_with fail
    exact bodyPost_ret (v := (⟨1, nz, none, 0, 0⟩ : Nd).val) (by simp [results, Tryz.results94, go_sem, Nd.val, d0, d1, d2, d3, d4, d5]) rfl ⟨HE.out.1, HE.out.2, _, rfl, ⟨_, rfl⟩, HR3.out.put6 (fun e => HB.out e.symm) ⟨1, nz, none, 0, 0⟩, HO3.out.put6 (Nat.le_refl _) ⟨1, nz, none, 0, 0⟩⟩
  | ok x =>
    obtain ⟨x, r2⟩ := x
    obtain ⟨nz, hnz⟩ : ∃ nz, withW W4.zero x = nz := ⟨_, rfl⟩
    refine key (.ok (.mk 1 nz [], r2)) (by simp only [thingR]; rw [if_neg h40, if_neg h91, if_neg h46, if_neg h94, if_neg h36]; simp only [hX]; rw [hnz]) (Lib.hid ?_)
    have CC := NX
    rw [hX] at CC
    have WX := Lib.hid fun W => by have := WX.out W4.zero x W; rw [hnz] at this; exact this
    clear hnz
    clear key hcn hX GR ST
    go_enter Tryz.func94, Tryz.ntmps94
    go_wp2_with fail
    go_quiet (fail)
    clear hv
    have HRA := Lib.hid ((HR0.out.alloc (.cells #[.int .i64 0, .int .u64 0, .int .u64 0, .int .u64 0, .int .u64 0, .slice none 0 0] 45)).drewN nq)
    have HOA := Lib.hid (((Onl.refl b w).alloc (.cells #[.int .i64 0, .int .u64 0, .int .u64 0, .int .u64 0, .int .u64 0, .slice none 0 0] 45)).drewN (n := nq))
    have HNA := Lib.hid ((BlkN.new w).drewN nq)
    have hwz : ((w.alloc (.cells #[.int .i64 0, .int .u64 0, .int .u64 0, .int .u64 0, .int .u64 0, .slice none 0 0] 45)).drewN nq).heap.size = w.heap.size + 1 := by simp
    have HWZ := Lib.hid hwz
    clear hwz HR0
    generalize (w.alloc (.cells #[.int .i64 0, .int .u64 0, .int .u64 0, .int .u64 0, .int .u64 0, .slice none 0 0] 45)).drewN nq = w1 at *
    go_wp2_with fail
    refine (CC.out w1 HRA.out).mono ?_
    rintro e w2 ⟨hs2, v, rfl, rfl, hr2, o2⟩
    have HE := Lib.hid hs2
    have HR2 := Lib.hid hr2
    have HO2 := Lib.hid (HOA.out.trans o2)
    have HN2 := Lib.hid (HNA.out.onl o2 (fun e => HB.out e.symm))
    clear hs2 hr2 o2
    go_wp2_with fail
    refine (WX.out _).mono ?_
    rintro e w3 ⟨rfl, hb3⟩
    have HR3 := Lib.hid (HR2.out.below hb3)
    have HO3 := Lib.hid (HO2.out.trans (Onl.of_below hb3 (Nat.le_refl _)))
    have HN3 := Lib.hid (HN2.out.below hb3)
    clear hb3
    unfold W4.val
    obtain ⟨d0, d1, d2, d3, d4, d5, k0, k1, k2, k3, k4, k5⟩ := HN3.out.cells
    go_wp2_with fail
    exact bodyPost_ret (v := (⟨1, nz, none, 0, 0⟩ : Nd).val) (by simp [results, Tryz.results94, go_sem, Nd.val, d0, d1, d2, d3, d4, d5]) rfl ⟨HE.out, _, rfl, ⟨_, rfl, TreeN.leaf _ _ 1 nz⟩, HR3.out.put6 (fun e => HB.out e.symm) ⟨1, nz, none, 0, 0⟩, HO3.out.put6 (Nat.le_refl _) ⟨1, nz, none, 0, 0⟩⟩
end Go.Proofs.YtmlpkimbcjkbkaaGreatDoor
