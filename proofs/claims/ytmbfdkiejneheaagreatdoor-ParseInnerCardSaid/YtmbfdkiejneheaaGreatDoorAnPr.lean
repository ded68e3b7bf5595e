/-
 CONTRACTS of layer 12's print and Print.
-/
import Derived.Test.YtmbfdkiejneheaaGreatDoorLxM
import Derived.Test.YtmbfdkiejneheaaGreatDoorAnM
import Derived.Lib.AppendStr
import Derived.Lib.OthersKept
import Derived.Lib.ItoaLen
import Derived.Lib.BufferRead
namespace Go.Proofs.YtmbfdkiejneheaaGreatDoor.An
open Go.RowKit

mutual
/-- A tree as a text. -/
def printL : T → List UInt8
 | .mk op tx _ ks => 40 :: (op.data.toList ++ (textL tx ++ (kidsL ks ++ [41])))
def kidsL : List T → List UInt8
 | [] => []
 | t :: ts => 32 :: (printL t ++ kidsL ts)
def textL (tx : ByteArray) : List UInt8 := if tx.size = 0 then [] else 32 :: (Lib.itoa tx.size ++ 58 :: tx.data.toList)
end
theorem kidsL_append : ∀ a b : List T, kidsL (a ++ b) = kidsL a ++ kidsL b
 | [], b => by rw [kidsL]; rfl
 | t :: ts, b => by
  show kidsL (t :: (ts ++ b)) = _
  rw [kidsL, kidsL, kidsL_append ts b]
  simp
theorem kidsL_one (t : T) : kidsL [t] = 32 :: printL t := by rw [kidsL, kidsL, List.append_nil]
theorem kidsL_snoc (ks : List AT) (k : Nat) (h : k < ks.length) : kidsL (erL (ks.take (k + 1))) = kidsL (erL (ks.take k)) ++ 32 :: printL (er ks[k]) := by
 rw [erL_take ks k h, kidsL_append, kidsL_one]
theorem kidsL_le (ks : List AT) (k : Nat) : (kidsL (erL (ks.take k))).length ≤ (kidsL (erL ks)).length := by
 have := congrArg List.length (kidsL_append (erL (ks.take k)) (erL (ks.drop k)))
 rw [erL_map, erL_map, ← List.map_append, List.take_append_drop, List.length_append, ← erL_map, ← erL_map] at this
 omega
theorem kidsL_ge : ∀ ks : List AT, ks.length ≤ (kidsL (erL ks)).length
 | [] => Nat.zero_le _
 | t :: ts => by
  have := kidsL_ge ts
  rw [erL, kidsL]
  simp
  omega
/-- A row of bytes that grows in blocks from base on: v in w, begun in u. -/
structure Ou (base : Nat) (u : World) (n : Nat) (M : List UInt8) (v : Value) (w : World) : Prop where
 own : w.ownsRow base 5 1 v n (Lib.byteCells M)
 bel : Below base u w
 oth : Lib.OthersKept 5 none u w
 le : base ≤ u.heap.size
theorem Ou.start {base n : Nat} {M : List UInt8} {v : Value} {w : World} (h : w.ownsRow base 5 1 v n (Lib.byteCells M)) (hb : base ≤ w.heap.size) : Ou base w n M v w := ⟨h, Below.refl _ _, Lib.OthersKept.refl _ _ _, hb⟩
theorem as_own_kept {w w' : World} {B : Nat} {e : TypeId} {z : Nat} {v : Value} {n : Nat} {xs : List Value} (h : w.ownsRow B e z v n xs) (hk : ∀ g, v.ownBlock = some g → w'.heap[g]? = w.heap[g]?) : w'.ownsRow B e z v n xs := by
 refine ⟨h.1, ?_⟩
 rcases h.2 with h2 | ⟨g, cap, cur, rfl, hB, hgg, h3⟩
 ·
  exact .inl h2
 ·
  exact .inr ⟨g, cap, cur, rfl, hB, (hk g rfl).trans hgg, h3⟩
theorem as_kind {w : World} {B : Nat} {e : TypeId} {z : Nat} {v : Value} {n : Nat} {xs : List Value} (h : w.ownsRow B e z v n xs) : ∀ g, v.ownBlock = some g → B ≤ g ∧ ∃ c fz, w.heap[g]? = some (.cells c e fz) := by
 intro g hg
 refine ⟨(h.lt g hg).1, ?_⟩
 rcases h.2 with ⟨rfl, _⟩ | ⟨g', cap, cur, rfl, hB, hgg, _⟩
 ·
  simp [Value.ownBlock] at hg
 ·
  simp [Value.ownBlock] at hg
  subst hg
  exact ⟨_, _, hgg⟩
section
variable {base n : Nat} {u w w9 : World} {M : List UInt8} {v v9 : Value}
theorem Ou.size (h : Ou base u n M v w) : base ≤ w.heap.size := Nat.le_trans h.le h.bel.size
theorem Ou.next (h : Ou base u n M v w) {w' : World} (hb : Below w.heap.size w w') : Ou base u n M v w' :=
 ⟨as_own_kept h.own fun g hg => hb.block g (h.own.lt g hg).2, h.bel.trans (hb.mono h.size), h.oth.below hb, h.le⟩
theorem Ou.trans {n' : Nat} {M' : List UInt8} {v' : Value} {w' : World} (h : Ou base u n M v w) (k : Ou base w n' M' v' w') : Ou base u n' M' v' w' := ⟨k.own, h.bel.trans k.bel, h.oth.trans k.oth, h.le⟩
theorem Ou.byte {lit : Obj} {c : UInt8} (h : Ou base u n M v w) (ho : w9.ownsRow base 5 1 v9 (n + 1) (Lib.byteCells M ++ [.int .u8 (c.toNat : Int)])) (hg : (w.alloc lit).grownBy w9 v.ownBlock) : Ou base u (n + 1) (M ++ [c]) v9 w9 := by
 refine ⟨by rw [Lib.byteCells_append]; exact ho, (h.bel.alloc h.size lit).grown hg (by have := h.size; simp; omega) (fun k hk => (h.own.lt k hk).1), (h.oth.alloc lit).grown hg (fun k hk => ?_), h.le⟩
 obtain ⟨_, c, fz, h2⟩ := as_kind h.own k hk
 exact ⟨c, fz, (Below.heap_alloc w lit k (as_lt h2)).trans h2⟩
theorem Ou.str {s : ByteArray} (h : Ou base u n M v w) (ho : w9.ownsRow base 5 1 v9 (n + s.size) (Lib.byteCells M ++ Lib.strCells s)) (hg : w.grownBy w9 v.ownBlock) : Ou base u (n + s.size) (M ++ s.data.toList) v9 w9 := by
 refine ⟨by rw [Lib.byteCells_append]; exact ho, h.bel.grown hg h.size (fun k hk => (h.own.lt k hk).1), h.oth.grown hg (fun k hk => ?_), h.le⟩
 obtain ⟨_, c, fz, h2⟩ := as_kind h.own k hk
 exact ⟨c, fz, h2⟩
theorem Ou.int {x : Int} (h : Ou base u n M v w) (ho : w9.ownsRow base 5 1 v9 (n + (Lib.itoa x).length) (Lib.byteCells M ++ Lib.byteCells (Lib.itoa x))) (hb : Below base w w9) (hk : Lib.OthersKept 5 none w w9) : Ou base u (n + (Lib.itoa x).length) (M ++ Lib.itoa x) v9 w9 :=
 ⟨by rw [Lib.byteCells_append]; exact ho, h.bel.trans hb, h.oth.trans hk, h.le⟩
theorem Ou.node (h : Ou base u n M v w) {g o : Nat} {nd : Nd} {cs : Array Value} {fz : Nat × Nat} (hg : u.heap[g]? = some (.cells cs 25 fz)) (hn : NodeAt u g o nd) : NodeAt w g o nd :=
 hn.kept ((h.oth g _ hg (by simp) (fun c f e => by cases e)).trans hg.symm)
end
def PrPost (base n : Nat) (M : List UInt8) (u : World) (e : Ending) (w' : World) : Prop := ∃ (p : Option Addr) (c : Nat), e = .returned (.slice p n c) ∧ Ou base u n M (.slice p n c) w'
def PrOk (a : AT) : Prop := ∀ (base n : Nat) (L : List UInt8) (p : Option Addr) (c : Nat) (w : World) (B : Nat → Prop), TV w B a.nd a.ks → (∀ g, B g → g < base) → base ≤ w.heap.size → n + (printL (er a)).length ≤ 1000000 →
 w.ownsRow base 5 1 (.slice p n c) n (Lib.byteCells L) → Lib.TabBelow Tryz.prog base w "internal/strconv.uint64pow10" .u64 Lib.pow10Tab →
 Calls Tryz.prog 25 #[a.nd.val, .slice p n c] w (PrPost base (n + (printL (er a)).length) (L ++ printL (er a)) w)
theorem Tryz.infoU8 : (Tryz.prog.info? 5).map (fun i => (i.zero, i.size, i.bytes)) = some (some (.int .u8 0), 1, 1) := by kernel_rfl
theorem as_pos {w : World} {B n : Nat} {e : TypeId} {v : Value} {z : Nat} {xs : List Value} (h : w.ownsRow B e z v n xs) (hn : 0 < n) : ∃ g cap, v = .slice (some ⟨g, 0, none⟩) n cap := by
 rcases h.2 with ⟨_, h0⟩ | ⟨g, cap, _, rfl, _⟩
 ·
  omega
 ·
  exact ⟨g, cap, rfl⟩
theorem textL_pos {tx : ByteArray} (h : tx.size ≠ 0) : textL tx = 32 :: (Lib.itoa tx.size ++ 58 :: tx.data.toList) := by unfold textL; rw [if_neg h]
theorem textL_nil {tx : ByteArray} (h : tx.size = 0) : textL tx = [] := by unfold textL; rw [if_pos h]
theorem as_itoa_len (k : Nat) (h : k ≤ 9223372036854775807) : (Lib.itoa (k : Int)).length ≤ 20 := by
 rw [Lib.itoa_nonneg, Lib.decDigits_length]
 exact Lib.nDigits_le20 k (by omega)
set_option maxHeartbeats 4000000 in
set_option maxRecDepth 100000 in
theorem print_one (a : AT) (ih : ∀ k ∈ a.ks, PrOk k) : PrOk a := by
 intro base n L p c w B hT hB hb hn ho htab
 obtain ⟨i0, hi, hz0, hz1, hz2⟩ := info_parts Tryz.infoU8
 obtain ⟨op, tx, pl, kp, kc, g, o, ks⟩ := a
 simp only [AT.nd, AT.ks, Nd.val] at *
 rw [er, printL] at hn ⊢
 have hlen : (40 :: (op.data.toList ++ (textL tx ++ (kidsL (erL ks) ++ [41])))).length = 1 + op.size + (textL tx).length + (kidsL (erL ks)).length + 1 := by
  simp
  omega
 rw [hlen] at hn ⊢
 obtain ⟨_, hkd, hmem⟩ := hT
 simp only at hkd
 have HKD := kH hkd
 have HMEM := kH hmem
 have HIH := kH ih
 have HB := kH hB
 have HTAB := kH htab
 have hkg := kidsL_ge ks
 have HN := kH hn
 have HKG := kH hkg
 have hn1 : n ≤ 999990 + 8 := by omega
 have hkb : ks.length ≤ 1000000 := by omega
 have hop : n + op.size ≤ 1000000 := by omega
 have b1 : Below w.heap.size w (w.alloc (.cells #[.string op, .string tx, .int .i64 pl, .slice kp ks.length kc] 25)) := (Below.refl _ _).alloc (Nat.le_refl _) _
 have n1 := node_new w ⟨op, tx, pl, kp, ks.length, kc⟩
 have r1 := as_heap_alloc w (.cells #[.string op, .string tx, .int .i64 pl, .slice kp ks.length kc] 25)
 have HU := kH ((Ou.start ho hb).next b1)
 have z1 : (w.alloc (.cells #[.string op, .string tx, .int .i64 pl, .slice kp ks.length kc] 25)).heap.size = w.heap.size + 1 := by simp
 have HZ1 := kH z1
 simp only at n1
 have hbb : base ≤ (w.alloc (.cells #[.string op, .string tx, .int .i64 pl, .slice kp ks.length kc] 25)).heap.size := by omega
 have HBX : Hid (∀ W, Lib.OthersKept 5 none (w.alloc (.cells #[.string op, .string tx, .int .i64 pl, .slice kp ks.length kc] 25)) W → NodeAt W w.heap.size 0 ⟨op, tx, pl, kp, ks.length, kc⟩) := kH fun W h =>
  n1.kept ((h w.heap.size _ r1 (by simp) (fun c f e => by cases e)).trans r1.symm)
 have HTB : Hid (∀ W, Below base w W → Lib.TabBelow Tryz.prog base W "internal/strconv.uint64pow10" .u64 Lib.pow10Tab) := kH fun W h W' h' => HTAB.out W' (h.trans h')
 have HUS := kH (Ou.start HU.out.own hbb)
 have HLE := kH hb
 clear hkd hmem ih hB htab hn ho b1 n1 r1 z1 hlen hkg hbb hb
 go_enter Tryz.func25, Tryz.ntmps25
 go_wp2_with (at_builtin; refine wpList_append_own_at _ rfl (.tmp 7) (.tmp 8) 51 rfl base 5 i0 (.int .u8 0) 1 1 Tryz.underlying51 hi hz0 hz1 hz2 rfl (by decide) (.slice p n c) n (Lib.byteCells L) rfl (HU.out.own.alloc _) ⟨w.heap.size + 1, 0, none⟩ 1 1 [.int .u8 40] rfl rfl ?c1 ?c2 ?c3 ?c4 ?c5 ?_)
 case c2 => simp [Value.oneCell']
 case c3 => unfold maxLen; omega
 case c4 => omega
 case c5 => have := HU.out.size; simp at this ⊢; omega
 intro v1 w1 hown1 hgrow1 _ _
 obtain ⟨g1, c1, rfl⟩ := as_succ hown1
 generalize w.alloc (.cells #[.string op, .string tx, .int .i64 pl, .slice kp ks.length kc] 25) = W1 at *
 have hR1 := HUS.out.byte (c := 40) hown1 hgrow1
 have x0 := (HBX.out w1 hR1.oth).c0
 simp only at x0
 have HR1 := kH hR1
 clear hown1 hgrow1 hR1
 go_wp2_with (at_builtin; refine Lib.wpList_append_own_string _ rfl (.tmp 10) (.tmp 12) 51 9 rfl base 5 i0 Tryz.underlying51 Tryz.underlying9 hi hz0 hz1 hz2 _ _ _ rfl HR1.out.own op rfl ?d1 ?d2 ?d3 ?_)
 case d1 => unfold maxLen; omega
 case d2 => omega
 case d3 => exact HR1.out.size
 intro v2 w2 hown2 hgrow2 _
 obtain ⟨g2, c2, rfl⟩ := as_pos hown2 (by omega)
 have hR2 := HR1.out.str hown2 hgrow2
 obtain ⟨x0, x1, x2, x3⟩ := HBX.out w2 hR2.oth
 simp only at x0 x1 x2 x3
 have HR2 := kH hR2
 clear hown2 hgrow2 hR2 HR1
 obtain ⟨M2, hM2⟩ : ∃ M, M = L ++ [40] ++ op.data.toList := ⟨_, rfl⟩
 rw [← hM2] at HR2
 have HM2 := kH hM2
 clear hM2
 by_cases ht0 : tx.size = 0
 ·
  have htx : (tx.toList == ([] : List UInt8)) = true := by
   rw [ByteArray.toList_eq, show tx.data.toList = [] from List.length_eq_zero_iff.1 (by simpa using ht0)]
   rfl
  have HTX := kH (textL_nil ht0)
  have HN2 : Hid (n + 1 + op.size + (kidsL (erL ks)).length + 1 ≤ 1000000) := kH (by have := HN.out; rw [HTX.out] at this; simp at this; omega)
  have hHM : ([] : List UInt8).length = 0 := rfl
  clear ht0
  go_wp2_with fail
  go_loopw [1, 35] (fun ov iv wr => ∃ (k m : Nat) (p' : Option Addr) (c' : Nat), k ≤ ks.length ∧ ov = .slice p' m c' ∧ iv = .int .i64 (k : Int) ∧ Hid (m = (n + 1 + op.size) + (kidsL (erL (ks.take k))).length) ∧ Hid (Ou base W1 m ((M2) ++ kidsL (erL (ks.take k))) (.slice p' m c') wr)) (fun _ iv _ => ks.length - (intOf iv).toNat)
  case atStart => exact ⟨0, _, _, _, Nat.zero_le _, rfl, rfl, kH (by simp [erL, kidsL]), kH (by simpa [erL, kidsL] using HR2.out)⟩
  case round =>
   obtain ⟨k, m, p', c', hk, rfl, rfl, HM, HO⟩ := hrel
   clear HR2 x0 x1 x2 x3
   by_cases hlt : k < ks.length
   ·
    have hki : (k : Int) < (ks.length : Int) := by omega
    obtain ⟨kg, ko, rfl, hkk⟩ : ∃ kg ko, kp = some ⟨kg, ko, none⟩ ∧ ∀ (i : Nat) (h : i < ks.length), ks[i].g = kg ∧ ks[i].o = ko + i * 4 := by
     rcases HKD.out with rfl | h
     ·
      simp at hlt
     ·
      exact h
    obtain ⟨eg, eo⟩ := hkk k hlt
    have hbw := HU.out.bel.trans HO.out.bel
    have hmk := (MemL.kept (B' := B) (fun g hg _ => hbw.block g (HB.out g hg)) (fun _ h _ => h) ks HMEM.out).all _ (List.getElem_mem hlt)
    obtain ⟨_, ⟨c0, c1, c2, c3⟩, hkd2, hmem2⟩ := Mem.iff.1 hmk
    rw [eg, eo] at c0 c1 c2 c3
    have HTV : Hid (TV wr B ks[k].nd ks[k].ks) := kH ⟨by cases ks[k]; rfl, hkd2, hmem2⟩
    have HC := kH (HIH.out ks[k] (List.getElem_mem hlt))
    have hsn := kidsL_snoc ks k hlt
    have hle := kidsL_le ks (k + 1)
    rw [hsn] at hle
    have hmm : m + 2 + (printL (er ks[k])).length ≤ 1000000 := by have h1 := HM.out; have h2 := HN2.out; simp at hle; omega
    have HSN := kH hsn
    have HMM := kH hmm
    have hm1 : m ≤ 999990 + 8 := by omega
    have HBW := kH hbw
    clear hmk hkd2 hmem2 eg eo hkk hsn hle hmm hbw
    generalize ks[k] = ak at *
    obtain ⟨⟨nop, ntx, npl, nkp, nkn, nkc⟩, hnd⟩ : ∃ n, n = ak.nd := ⟨_, rfl⟩
    rw [← hnd] at c0 c1 c2 c3 HTV
    have HND := kH hnd
    simp only at c0 c1 c2 c3
    clear hnd
    have hba : Below wr.heap.size wr (wr.alloc (.cells #[.string nop, .string ntx, .int .i64 npl, .slice nkp nkn nkc] 25)) := (Below.refl _ _).alloc (Nat.le_refl _) _
    have n4 := node_new wr ⟨nop, ntx, npl, nkp, nkn, nkc⟩
    have r4 := as_heap_alloc wr (.cells #[.string nop, .string ntx, .int .i64 npl, .slice nkp nkn nkc] 25)
    simp only at n4
    have HX := kH (HO.out.next hba)
    have HX0 := kH (Ou.start HX.out.own (Nat.le_trans HO.out.size hba.size))
    have HN4 : Hid (∀ W, Lib.OthersKept 5 none (wr.alloc (.cells #[.string nop, .string ntx, .int .i64 npl, .slice nkp nkn nkc] 25)) W → NodeAt W wr.heap.size 0 ⟨nop, ntx, npl, nkp, nkn, nkc⟩) := kH fun W h => n4.kept ((h wr.heap.size _ r4 (by simp) (fun c f e => by cases e)).trans r4.symm)
    have HTV4 := kH (HTV.out.next hba)
    have hz4 : (wr.alloc (.cells #[.string nop, .string ntx, .int .i64 npl, .slice nkp nkn nkc] 25)).heap.size = wr.heap.size + 1 := by simp
    clear hba n4 r4 HTV
    go_wp2_with (at_builtin; refine wpList_append_own_at _ rfl (.tmp 39) (.tmp 40) 51 rfl base 5 i0 (.int .u8 0) 1 1 Tryz.underlying51 hi hz0 hz1 hz2 rfl (by decide) (.slice p' m c') m (Lib.byteCells ((M2) ++ kidsL (erL (ks.take k)))) rfl (HX.out.own.alloc _) ⟨wr.heap.size + 1, 0, none⟩ 1 1 [.int .u8 32] rfl rfl ?da1 ?da2 ?da3 ?da4 ?da5 ?_)
    all_goals try (case da1 => first | exact cell_one_new _ _ _ | (have h := cell_one_new (wr.alloc (.cells #[.string nop, .string ntx, .int .i64 npl, .slice nkp nkn nkc] 25)) (.int .u8 32) 5; simpa using h))
    case da2 => simp [Value.oneCell']
    case da3 => unfold maxLen; omega
    case da4 => omega
    case da5 => have := HX.out.size; simp at this ⊢; omega
    intro v2 w2 hown2 hgrow2 _ _
    obtain ⟨g5, c5, rfl⟩ := as_succ hown2
    have hS2 := HX0.out.byte (c := 32) hown2 hgrow2
    have hR2 := HX.out.byte (c := 32) hown2 hgrow2
    obtain ⟨y0, y1, y2, y3⟩ := HN4.out w2 hS2.oth
    simp only at y0 y1 y2 y3
    obtain ⟨m3, hm3⟩ : ∃ m3, m + 1 + (printL (er ak)).length = m3 := ⟨_, rfl⟩
    have HCC : Hid (Calls Tryz.prog 25 #[.agg #[.string nop, .string ntx, .int .i64 npl, .slice nkp nkn nkc], .slice (some ⟨g5, 0, none⟩) (m + 1) c5] w2 (PrPost base m3 ((((M2) ++ kidsL (erL (ks.take k))) ++ [32]) ++ printL (er ak)) w2)) := kH (by
     have h := HC.out base (m + 1) (((M2) ++ kidsL (erL (ks.take k))) ++ [32]) (some ⟨g5, 0, none⟩) c5 w2 B
     rw [← HND.out] at h
     rw [← hm3]
     refine h (HTV4.out.kept (fun g hg _ => hS2.bel.block g (HB.out g hg)) (fun _ h _ => h)) HB.out hS2.size (by have := HMM.out; omega) hR2.own (HTB.out w2 (HU.out.bel.trans hR2.bel)))
    have HR2 := kH hR2
    have hm4 : m3 ≤ 999999 := by have := HMM.out; omega
    have HM3 := kH hm3
    clear hown2 hgrow2 hS2 hR2 hm3 HX HX0 HTV4 HN4 HC
    go_wp2_with (with_reducible refine (HCC.out).mono ?_)
    rintro e w3 ⟨p3, c3, rfl, hR3⟩
    have HR3 := kH (HR2.out.trans hR3)
    clear hR3 HR2 HCC
    go_wp2_with fail
    go_round
    case measure => simp [intOf]; omega
    case rel =>
     refine ⟨k + 1, m3, p3, c3, by omega, rfl, by simp, kH ?_, kH ?_⟩
     ·
      rw [HSN.out]
      have h1 := HM.out
      have h2 := HM3.out
      simp
      omega
     ·
      rw [HSN.out]
      have := HR3.out
      simpa using this
   ·
    obtain rfl : k = ks.length := by omega
    have hki : ¬ (ks.length : Int) < (ks.length : Int) := by omega
    rw [List.take_length] at HM HO
    have hmm : m + 1 ≤ 1000000 := by
     have h1 := HM.out
     have h2 := HN2.out
     omega
    go_wp2_with (at_builtin; refine wpList_append_own_at _ rfl (.tmp 46) (.tmp 47) 51 rfl base 5 i0 (.int .u8 0) 1 1 Tryz.underlying51 hi hz0 hz1 hz2 rfl (by decide) (.slice p' m c') m (Lib.byteCells ((M2) ++ kidsL (erL ks))) rfl (HO.out.own.alloc _) ⟨wr.heap.size, 0, none⟩ 1 1 [.int .u8 41] rfl rfl ?ea1 ?ea2 ?ea3 ?ea4 ?ea5 ?_)
    all_goals try (case ea1 => first | exact cell_one_new _ _ _ | (have h := cell_one_new (wr.alloc (.cells #[.string nop, .string ntx, .int .i64 npl, .slice nkp nkn nkc] 25)) (.int .u8 41) 5; simpa using h))
    case ea2 => simp [Value.oneCell']
    case ea3 => unfold maxLen; omega
    case ea4 => omega
    case ea5 => have := HO.out.size; simp at this ⊢; omega
    intro v2 w2 hown2 hgrow2 _ _
    obtain ⟨g5, c5, rfl⟩ := as_succ hown2
    have HF := kH (HU.out.trans (HO.out.byte (c := 41) hown2 hgrow2))
    clear hown2 hgrow2
    go_wp2_with fail
    go_ret
    have h1 := HF.out
    have h2 := HM.out
    rw [HTX.out]
    have e : m + 1 = n + (1 + op.size + ([] : List UInt8).length + (kidsL (erL ks)).length + 1) := by omega
    refine ⟨some ⟨g5, 0, none⟩, c5, ?_, ?_⟩
    ·
     rw [← e]; rfl
    ·
     rw [← e]
     rw [HM2.out] at h1
     simpa using h1
 ·
  have htx : (tx.toList == ([] : List UInt8)) = false := by
   rw [ByteArray.toList_eq, beq_eq_false_iff_ne]
   intro e
   apply ht0
   have := congrArg List.length e
   simpa using this
  have HTX := kH (textL_pos ht0)
  have hil := as_itoa_len tx.size (by have := HN.out; rw [HTX.out] at this; simp at this; omega)
  have htl : (32 :: (Lib.itoa tx.size ++ 58 :: tx.data.toList)).length = 1 + (Lib.itoa tx.size).length + 1 + tx.size := by
   simp
   omega
  have HTL := kH htl
  have hN2 : n + 1 + op.size + 1 + (Lib.itoa tx.size).length + 1 + tx.size + (kidsL (erL ks)).length + 1 ≤ 1000000 := by have := HN.out; rw [HTX.out, htl] at this; omega
  have HN2 := kH hN2
  have hxs : tx.size ≤ 1000000 := by omega
  have htz : n + 1 + op.size + 1 + (Lib.itoa tx.size).length + 1 + tx.size ≤ 1000000 := by omega
  clear ht0 htl hN2
  go_wp2_with (at_builtin; refine wpList_append_own_at _ rfl (.tmp 17) (.tmp 18) 51 rfl base 5 i0 (.int .u8 0) 1 1 Tryz.underlying51 hi hz0 hz1 hz2 rfl (by decide) (.slice (some ⟨g2, 0, none⟩) (n + 1 + op.size) c2) (n + 1 + op.size) (Lib.byteCells M2) rfl (HR2.out.own.alloc _) ⟨w2.heap.size, 0, none⟩ 1 1 [.int .u8 32] rfl rfl ?f1 ?f2 ?f3 ?f4 ?f5 ?_)
  all_goals try (case f1 => first | exact cell_one_new _ _ _ | (have h := cell_one_new (wr.alloc (.cells #[.string nop, .string ntx, .int .i64 npl, .slice nkp nkn nkc] 25)) (.int .u8 32) 5; simpa using h))
  case f2 => simp [Value.oneCell']
  case f3 => unfold maxLen; omega
  case f4 => omega
  case f5 => have := HR2.out.size; simp at this ⊢; omega
  intro v3 w3 hown3 hgrow3 _ _
  obtain ⟨g3, c3, rfl⟩ := as_succ hown3
  have hR3 := HR2.out.byte (c := 32) hown3 hgrow3
  obtain ⟨x0, x1, x2, x3⟩ := HBX.out w3 hR3.oth
  simp only at x0 x1 x2 x3
  have CI := kH (Tryz.strconv_AppendInt_10 base (n + 1 + op.size + 1) (tx.size : Int) (by omega) (by omega) (.slice (some ⟨g3, 0, none⟩) (n + 1 + op.size + 1) c3) _ w3 hR3.own hR3.size (by omega) (HTB.out w3 (HU.out.bel.trans hR3.bel)))
  have HR3 := kH hR3
  clear hown3 hgrow3 hR3 HR2
  go_wp2_with fail
  refine CI.out.mono ?_
  rintro e w4 ⟨v4, rfl, hown4, hb4, ho4⟩
  obtain ⟨g4, c4, rfl⟩ := as_pos hown4 (by omega)
  have hR4 := HR3.out.int hown4 hb4 ho4
  obtain ⟨x0, x1, x2, x3⟩ := HBX.out w4 hR4.oth
  simp only at x0 x1 x2 x3
  have HR4 := kH hR4
  clear hown4 hb4 ho4 hR4 HR3 CI
  obtain ⟨M4, hM4⟩ : ∃ M, M = M2 ++ [32] ++ Lib.itoa tx.size := ⟨_, rfl⟩
  rw [← hM4] at HR4
  have HM4 := kH hM4
  clear hM4
  go_wp2_with (at_builtin; refine wpList_append_own_at _ rfl (.tmp 25) (.tmp 26) 51 rfl base 5 i0 (.int .u8 0) 1 1 Tryz.underlying51 hi hz0 hz1 hz2 rfl (by decide) (.slice (some ⟨g4, 0, none⟩) (n + 1 + op.size + 1 + (Lib.itoa tx.size).length) c4) (n + 1 + op.size + 1 + (Lib.itoa tx.size).length) (Lib.byteCells M4) rfl (HR4.out.own.alloc _) ⟨w4.heap.size, 0, none⟩ 1 1 [.int .u8 58] rfl rfl ?h1 ?h2 ?h3 ?h4 ?h5 ?_)
  all_goals try (case h1 => first | exact cell_one_new _ _ _ | (have h := cell_one_new (wr.alloc (.cells #[.string nop, .string ntx, .int .i64 npl, .slice nkp nkn nkc] 25)) (.int .u8 58) 5; simpa using h))
  case h2 => simp [Value.oneCell']
  case h3 => unfold maxLen; omega
  case h4 => omega
  case h5 => have := HR4.out.size; simp at this ⊢; omega
  intro v5 w5 hown5 hgrow5 _ _
  obtain ⟨g5, c5, rfl⟩ := as_succ hown5
  have hR5 := HR4.out.byte (c := 58) hown5 hgrow5
  obtain ⟨x0, x1, x2, x3⟩ := HBX.out w5 hR5.oth
  simp only at x0 x1 x2 x3
  have HR5 := kH hR5
  clear hown5 hgrow5 hR5 HR4
  go_wp2_with (at_builtin; refine Lib.wpList_append_own_string _ rfl (.tmp 28) (.tmp 30) 51 9 rfl base 5 i0 Tryz.underlying51 Tryz.underlying9 hi hz0 hz1 hz2 _ _ _ rfl HR5.out.own tx rfl ?i1 ?i2 ?i3 ?_)
  case i1 => unfold maxLen; omega
  case i2 => omega
  case i3 => exact HR5.out.size
  intro v6 w6 hown6 hgrow6 _
  obtain ⟨g6, c6, rfl⟩ := as_pos hown6 (by omega)
  have hR6 := HR5.out.str hown6 hgrow6
  obtain ⟨x0, x1, x2, x3⟩ := HBX.out w6 hR6.oth
  simp only at x0 x1 x2 x3
  have HR6 := kH hR6
  clear hown6 hgrow6 hR6 HR5
  obtain ⟨M6, hM6⟩ : ∃ M, M = M4 ++ [58] ++ tx.data.toList := ⟨_, rfl⟩
  rw [← hM6] at HR6
  have HM6 := kH hM6
  clear hM6
  go_wp2_with fail
  go_loopw [1, 35] (fun ov iv wr => ∃ (k m : Nat) (p' : Option Addr) (c' : Nat), k ≤ ks.length ∧ ov = .slice p' m c' ∧ iv = .int .i64 (k : Int) ∧ Hid (m = (n + 1 + op.size + 1 + (Lib.itoa tx.size).length + 1 + tx.size) + (kidsL (erL (ks.take k))).length) ∧ Hid (Ou base W1 m ((M6) ++ kidsL (erL (ks.take k))) (.slice p' m c') wr)) (fun _ iv _ => ks.length - (intOf iv).toNat)
  case atStart => exact ⟨0, _, _, _, Nat.zero_le _, rfl, rfl, kH (by simp [erL, kidsL]), kH (by simpa [erL, kidsL] using HR6.out)⟩
  case round =>
   obtain ⟨k, m, p', c', hk, rfl, rfl, HM, HO⟩ := hrel
   clear HR6 x0 x1 x2 x3
   by_cases hlt : k < ks.length
   ·
    have hki : (k : Int) < (ks.length : Int) := by omega
    obtain ⟨kg, ko, rfl, hkk⟩ : ∃ kg ko, kp = some ⟨kg, ko, none⟩ ∧ ∀ (i : Nat) (h : i < ks.length), ks[i].g = kg ∧ ks[i].o = ko + i * 4 := by
     rcases HKD.out with rfl | h
     ·
      simp at hlt
     ·
      exact h
    obtain ⟨eg, eo⟩ := hkk k hlt
    have hbw := HU.out.bel.trans HO.out.bel
    have hmk := (MemL.kept (B' := B) (fun g hg _ => hbw.block g (HB.out g hg)) (fun _ h _ => h) ks HMEM.out).all _ (List.getElem_mem hlt)
    obtain ⟨_, ⟨c0, c1, c2, c3⟩, hkd2, hmem2⟩ := Mem.iff.1 hmk
    rw [eg, eo] at c0 c1 c2 c3
    have HTV : Hid (TV wr B ks[k].nd ks[k].ks) := kH ⟨by cases ks[k]; rfl, hkd2, hmem2⟩
    have HC := kH (HIH.out ks[k] (List.getElem_mem hlt))
    have hsn := kidsL_snoc ks k hlt
    have hle := kidsL_le ks (k + 1)
    rw [hsn] at hle
    have hmm : m + 2 + (printL (er ks[k])).length ≤ 1000000 := by have h1 := HM.out; have h2 := HN2.out; simp at hle; omega
    have HSN := kH hsn
    have HMM := kH hmm
    have hm1 : m ≤ 999990 + 8 := by omega
    have HBW := kH hbw
    clear hmk hkd2 hmem2 eg eo hkk hsn hle hmm hbw
    generalize ks[k] = ak at *
    obtain ⟨⟨nop, ntx, npl, nkp, nkn, nkc⟩, hnd⟩ : ∃ n, n = ak.nd := ⟨_, rfl⟩
    rw [← hnd] at c0 c1 c2 c3 HTV
    have HND := kH hnd
    simp only at c0 c1 c2 c3
    clear hnd
    have hba : Below wr.heap.size wr (wr.alloc (.cells #[.string nop, .string ntx, .int .i64 npl, .slice nkp nkn nkc] 25)) := (Below.refl _ _).alloc (Nat.le_refl _) _
    have n4 := node_new wr ⟨nop, ntx, npl, nkp, nkn, nkc⟩
    have r4 := as_heap_alloc wr (.cells #[.string nop, .string ntx, .int .i64 npl, .slice nkp nkn nkc] 25)
    simp only at n4
    have HX := kH (HO.out.next hba)
    have HX0 := kH (Ou.start HX.out.own (Nat.le_trans HO.out.size hba.size))
    have HN4 : Hid (∀ W, Lib.OthersKept 5 none (wr.alloc (.cells #[.string nop, .string ntx, .int .i64 npl, .slice nkp nkn nkc] 25)) W → NodeAt W wr.heap.size 0 ⟨nop, ntx, npl, nkp, nkn, nkc⟩) := kH fun W h => n4.kept ((h wr.heap.size _ r4 (by simp) (fun c f e => by cases e)).trans r4.symm)
    have HTV4 := kH (HTV.out.next hba)
    have hz4 : (wr.alloc (.cells #[.string nop, .string ntx, .int .i64 npl, .slice nkp nkn nkc] 25)).heap.size = wr.heap.size + 1 := by simp
    clear hba n4 r4 HTV
    go_wp2_with (at_builtin; refine wpList_append_own_at _ rfl (.tmp 39) (.tmp 40) 51 rfl base 5 i0 (.int .u8 0) 1 1 Tryz.underlying51 hi hz0 hz1 hz2 rfl (by decide) (.slice p' m c') m (Lib.byteCells ((M6) ++ kidsL (erL (ks.take k)))) rfl (HX.out.own.alloc _) ⟨wr.heap.size + 1, 0, none⟩ 1 1 [.int .u8 32] rfl rfl ?db1 ?db2 ?db3 ?db4 ?db5 ?_)
    all_goals try (case db1 => first | exact cell_one_new _ _ _ | (have h := cell_one_new (wr.alloc (.cells #[.string nop, .string ntx, .int .i64 npl, .slice nkp nkn nkc] 25)) (.int .u8 32) 5; simpa using h))
    case db2 => simp [Value.oneCell']
    case db3 => unfold maxLen; omega
    case db4 => omega
    case db5 => have := HX.out.size; simp at this ⊢; omega
    intro v2 w2 hown2 hgrow2 _ _
    obtain ⟨g5, c5, rfl⟩ := as_succ hown2
    have hS2 := HX0.out.byte (c := 32) hown2 hgrow2
    have hR2 := HX.out.byte (c := 32) hown2 hgrow2
    obtain ⟨y0, y1, y2, y3⟩ := HN4.out w2 hS2.oth
    simp only at y0 y1 y2 y3
    obtain ⟨m3, hm3⟩ : ∃ m3, m + 1 + (printL (er ak)).length = m3 := ⟨_, rfl⟩
    have HCC : Hid (Calls Tryz.prog 25 #[.agg #[.string nop, .string ntx, .int .i64 npl, .slice nkp nkn nkc], .slice (some ⟨g5, 0, none⟩) (m + 1) c5] w2 (PrPost base m3 ((((M6) ++ kidsL (erL (ks.take k))) ++ [32]) ++ printL (er ak)) w2)) := kH (by
     have h := HC.out base (m + 1) (((M6) ++ kidsL (erL (ks.take k))) ++ [32]) (some ⟨g5, 0, none⟩) c5 w2 B
     rw [← HND.out] at h
     rw [← hm3]
     refine h (HTV4.out.kept (fun g hg _ => hS2.bel.block g (HB.out g hg)) (fun _ h _ => h)) HB.out hS2.size (by have := HMM.out; omega) hR2.own (HTB.out w2 (HU.out.bel.trans hR2.bel)))
    have HR2 := kH hR2
    have hm4 : m3 ≤ 999999 := by have := HMM.out; omega
    have HM3 := kH hm3
    clear hown2 hgrow2 hS2 hR2 hm3 HX HX0 HTV4 HN4 HC
    go_wp2_with (with_reducible refine (HCC.out).mono ?_)
    rintro e w3 ⟨p3, c3, rfl, hR3⟩
    have HR3 := kH (HR2.out.trans hR3)
    clear hR3 HR2 HCC
    go_wp2_with fail
    go_round
    case measure => simp [intOf]; omega
    case rel =>
     refine ⟨k + 1, m3, p3, c3, by omega, rfl, by simp, kH ?_, kH ?_⟩
     ·
      rw [HSN.out]
      have h1 := HM.out
      have h2 := HM3.out
      simp
      omega
     ·
      rw [HSN.out]
      have := HR3.out
      simpa using this
   ·
    obtain rfl : k = ks.length := by omega
    have hki : ¬ (ks.length : Int) < (ks.length : Int) := by omega
    rw [List.take_length] at HM HO
    have hmm : m + 1 ≤ 1000000 := by
     have h1 := HM.out
     have h2 := HN2.out
     omega
    go_wp2_with (at_builtin; refine wpList_append_own_at _ rfl (.tmp 46) (.tmp 47) 51 rfl base 5 i0 (.int .u8 0) 1 1 Tryz.underlying51 hi hz0 hz1 hz2 rfl (by decide) (.slice p' m c') m (Lib.byteCells ((M6) ++ kidsL (erL ks))) rfl (HO.out.own.alloc _) ⟨wr.heap.size, 0, none⟩ 1 1 [.int .u8 41] rfl rfl ?eb1 ?eb2 ?eb3 ?eb4 ?eb5 ?_)
    all_goals try (case eb1 => first | exact cell_one_new _ _ _ | (have h := cell_one_new (wr.alloc (.cells #[.string nop, .string ntx, .int .i64 npl, .slice nkp nkn nkc] 25)) (.int .u8 41) 5; simpa using h))
    case eb2 => simp [Value.oneCell']
    case eb3 => unfold maxLen; omega
    case eb4 => omega
    case eb5 => have := HO.out.size; simp at this ⊢; omega
    intro v2 w2 hown2 hgrow2 _ _
    obtain ⟨g5, c5, rfl⟩ := as_succ hown2
    have HF := kH (HU.out.trans (HO.out.byte (c := 41) hown2 hgrow2))
    clear hown2 hgrow2
    go_wp2_with fail
    go_ret
    have h1 := HF.out
    have h2 := HM.out
    rw [HTX.out, HTL.out]
    have e : m + 1 = n + (1 + op.size + (1 + (Lib.itoa tx.size).length + 1 + tx.size) + (kidsL (erL ks)).length + 1) := by omega
    refine ⟨some ⟨g5, 0, none⟩, c5, ?_, ?_⟩
    ·
     rw [← e]; rfl
    ·
     rw [← e]
     rw [HM6.out, HM4.out, HM2.out] at h1
     simpa using h1
mutual
theorem print_any : ∀ a : AT, PrOk a
 | .mk op tx pl kp kc g o ks => print_one (.mk op tx pl kp kc g o ks) (printAL ks)
theorem printAL : ∀ (l : List AT), ∀ k ∈ l, PrOk k
 | [], k, h => by cases h
 | a :: l, k, h => by
  rcases List.mem_cons.1 h with h | h
  ·
   rw [h]; exact print_any a
  ·
   exact printAL l k h
end
theorem printL_pos (t : T) : ∃ n, (printL t).length = n + 1 := by
 obtain ⟨op, tx, pl, ks⟩ := t
 rw [printL]
 exact ⟨_, rfl⟩
theorem as_byteCells_get (L : List UInt8) (j : Nat) (hj : j < L.length) : (Lib.byteCells L)[j]? = some (.int .u8 (L[j].toNat : Int)) := by
 unfold Lib.byteCells
 simp [hj]
set_option maxHeartbeats 4000000 in
theorem Print_any (n : Nd) (t : T) (b : Nat) (w : World) (h : VT w b n t) (hn : (printL t).length ≤ 1000000) (htab : Lib.TabBelow Tryz.prog w.heap.size w "internal/strconv.uint64pow10" .u64 Lib.pow10Tab) :
  Calls Tryz.prog 17 #[n.val] w fun e w' => e = .returned (.string ⟨(printL t).toArray⟩) ∧ Below w.heap.size w w' := by
 obtain ⟨ks, h1, rfl⟩ := h
 obtain ⟨op, tx, pl, kp, kn, kc⟩ := n
 obtain rfl : kn = ks.length := h1.len
 have ha : er (.mk op tx pl kp kc 0 0 ks) = Nd.t ⟨op, tx, pl, kp, ks.length, kc⟩ ks := by rw [er, Nd.t]
 have HC : Hid (∀ W, Below w.heap.size w W → Calls Tryz.prog 25 #[.agg #[.string op, .string tx, .int .i64 pl, .slice kp ks.length kc], .slice none 0 0] W (PrPost w.heap.size (printL (Nd.t ⟨op, tx, pl, kp, ks.length, kc⟩ ks)).length (printL (Nd.t ⟨op, tx, pl, kp, ks.length, kc⟩ ks)) W)) := kH fun W hW => by
  have := print_any (.mk op tx pl kp kc 0 0 ks) w.heap.size 0 [] none 0 W (fun g => g < w.heap.size) (h1.kept (fun g _ hl => hW.block g hl) (fun g _ hl => hl)) (fun g hg => hg) hW.size (by rw [ha]; omega) (World.ownsRow_nil W _ _ 1) (fun W' h' => htab W' (hW.trans h'))
  rw [ha] at this
  simpa [AT.nd, Nd.val] using this
 obtain ⟨q, hq⟩ := printL_pos (Nd.t ⟨op, tx, pl, kp, ks.length, kc⟩ ks)
 generalize printL (Nd.t ⟨op, tx, pl, kp, ks.length, kc⟩ ks) = M at *
 have HQ := kH hq
 clear h1 hn hq ha htab
 go_enter Tryz.func17, Tryz.ntmps17
 simp only [Nd.val]
 go_wp2_with (with_reducible refine (HC.out _ ?hb).mono ?_)
 case hb => exact (Below.refl _ _).alloc (Nat.le_refl _) _
 rintro e w3 ⟨p3, c3, rfl, hR3⟩
 have ho := hR3.own
 rw [HQ.out] at ho
 obtain ⟨g3, c4, e4⟩ := as_succ ho
 simp only [Value.slice.injEq] at e4
 obtain ⟨rfl, _, rfl⟩ := e4
 have hcv := run_convert_bytes_back (P := Tryz.prog) w3 51 9 5 ⟨g3, 0, none⟩ c3 M Tryz.underlying51 Tryz.underlying5 Tryz.underlying9 (fun j hj => by
  rw [← as_byteCells_get _ j hj, ← hR3.own.cellAt j (by simpa [Lib.byteCells] using hj)]
  by_cases h0 : j = 0 <;> simp [Addr.add, h0])
 have HB3 : Hid (Below w.heap.size w w3) := kH (Below.trans ((Below.refl _ _).alloc (Nat.le_refl _) _) hR3.bel)
 clear hR3 ho
 go_wp2_with fail
 go_ret
 exact ⟨rfl, HB3.out⟩
end Go.Proofs.YtmbfdkiejneheaaGreatDoor.An
