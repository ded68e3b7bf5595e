/-
  CONTRACT of layer 10's alt: one of them.
-/
import Derived.Test.YtmlpkimbcjkbkaaGreatDoorMtP2
import Derived.Deep.DeepCutAuto
namespace Go.Proofs.YtmlpkimbcjkbkaaGreatDoor
open Go.RowKit

theorem TksL_snoc (g : W4 → Nat → Prop) (t : RT) (x i : Nat) : ∀ (l : List RT) (b : Nat), TksL g (l ++ [t]) b x i ↔ TksL g l b x i ∨ Tks g t (b + leavesN l) x i
  | [], b => by
    simp only [List.nil_append, TksL, leavesN, Nat.add_zero, or_false, false_or, and_false]
    exact ⟨fun h => h.2, fun h => ⟨(Tks.range g t b x i h).2, h⟩⟩
  | u :: l, b => by
    have h := TksL_snoc g t x i l (b + leafN u)
    have e : b + leafN u + leavesN l = b + leavesN (u :: l) := by rw [show leavesN (u :: l) = leafN u + leavesN l from by rw [leavesN]]; omega
    rw [e] at h
    rw [List.cons_append, TksL, TksL, h]
    constructor
    · rintro (h | ⟨h1, h | h⟩)
      · exact .inl (.inl h)
      · exact .inl (.inr ⟨h1, h⟩)
      · exact .inr h
    · rintro ((h | ⟨h1, h⟩) | h)
      · exact .inl h
      · exact .inr ⟨h1, .inl h⟩
      · have := (Tks.range g t _ x i h).1
        have e2 : leavesN (u :: l) = leafN u + leavesN l := by rw [leavesN]
        exact .inr ⟨by omega, .inr h⟩
theorem BhdA_snoc (t : RT) (x y : Nat) : ∀ (l : List RT) (b : Nat), BhdA (l ++ [t]) b x y ↔ BhdA l b x y ∨ Bhd t (b + leavesN l) x y
  | [], b => by simp [BhdA, leavesN]
  | u :: l, b => by
    have h := BhdA_snoc t x y l (b + leafN u)
    have e : b + leafN u + leavesN l = b + leavesN (u :: l) := by rw [show leavesN (u :: l) = leafN u + leavesN l from by rw [leavesN]]; omega
    rw [e] at h
    rw [List.cons_append, BhdA, BhdA, h, or_assoc]
theorem BhdC_snoc (t : RT) (x y : Nat) : ∀ (l : List RT) (b : Nat), BhdC (l ++ [t]) b x y ↔ BhdC l b x y ∨ Bhd t (b + leavesN l) x y ∨ (LstC l b 0 x ∧ Fst t (b + leavesN l) 0 y)
  | [], b => by simp [BhdC, leavesN, LstC, FstC]
  | u :: l, b => by
    have h := BhdC_snoc t x y l (b + leafN u)
    have hf := FstC_snoc t 0 y l (b + leafN u)
    have e : b + leafN u + leavesN l = b + leavesN (u :: l) := by rw [show leavesN (u :: l) = leafN u + leavesN l from by rw [leavesN]]; omega
    rw [e] at h hf
    rw [List.cons_append, BhdC, BhdC, LstC, h, hf]
    constructor
    · rintro (h | (h | h | ⟨h1, h2⟩) | ⟨h1, h | ⟨h2, h3⟩⟩)
      · exact .inl (.inl h)
      · exact .inl (.inr (.inl h))
      · exact .inr (.inl h)
      · exact .inr (.inr ⟨.inl h1, h2⟩)
      · exact .inl (.inr (.inr ⟨h1, h⟩))
      · exact .inr (.inr ⟨.inr ⟨h2, h1⟩, h3⟩)
    · rintro ((h | h | ⟨h1, h2⟩) | h | ⟨h1 | ⟨h1, h2⟩, h3⟩)
      · exact .inl h
      · exact .inr (.inl (.inl h))
      · exact .inr (.inr ⟨h1, .inl h2⟩)
      · exact .inr (.inl (.inr (.inl h)))
      · exact .inr (.inl (.inr (.inr ⟨h1, h3⟩)))
      · exact .inr (.inr ⟨h2, .inr ⟨h1, h3⟩⟩)
theorem leavesN_append : ∀ (a b : List RT), leavesN (a ++ b) = leavesN a + leavesN b
  | [], b => by simp [leavesN]
  | u :: a, b => by rw [List.cons_append, leavesN, leavesN, leavesN_append a b]; omega
theorem empA_snoc (t : RT) (k : Nat) : ∀ l : List RT, empA (l ++ [t]) k = (empA l k || emp t k)
  | [] => by simp [empA]
  | u :: l => by
    rw [List.cons_append]
    unfold empA
    rw [empA_snoc t k l, Bool.or_assoc]
theorem TreesN.get {w : World} {B : Nat → Prop} : ∀ {ts : List RT} {nds : List Nd}, TreesN w B ts nds → ∀ (k : Nat) (t : RT), ts[k]? = some t → ∃ nd, nds[k]? = some nd ∧ TreeN w B t nd
  | [], nds, h, k, t, hk => by simp at hk
  | a :: ts, nds, h, k, t, hk => by
    unfold TreesN at h
    obtain ⟨nd, rest, h1, h2, h3⟩ := h
    subst h1
    cases k with
    | zero =>
      obtain rfl : a = t := by simpa using hk
      exact ⟨nd, rfl, h2⟩
    | succ k =>
      obtain ⟨x, hx⟩ := h3.get k t (by simpa using hk)
      exact ⟨x, by simpa using hx.1, hx.2⟩
/-- Six cells of a node. -/
structure Cells6 (w : World) (g o : Nat) (x : Nd) : Prop where
  c0 : w.cell? ⟨g, o, none⟩ = some (.int .i64 x.op)
  c1 : w.cell? ⟨g, o + 1, none⟩ = some (.int .u64 x.set.a)
  c2 : w.cell? ⟨g, o + 2, none⟩ = some (.int .u64 x.set.b)
  c3 : w.cell? ⟨g, o + 3, none⟩ = some (.int .u64 x.set.c)
  c4 : w.cell? ⟨g, o + 4, none⟩ = some (.int .u64 x.set.d)
  c5 : w.cell? ⟨g, o + 5, none⟩ = some (.slice x.kp x.kn x.kc)
/-- Kids lie where a slice says. -/
def KidsAt (w : World) (B : Nat → Prop) (kp : Option Addr) (ks : List RT) : Prop :=
  ∀ (k : Nat) (t : RT), ks[k]? = some t → ∃ (g : Nat) (x : Nd), kp = some ⟨g, 0, none⟩ ∧ B g ∧ g < w.heap.size ∧ Cells6 w g (k * 6) x ∧ TreeN w B t x
theorem kids_at {w : World} {B : Nat → Prop} {op : Nat} {st : W4} {ks : List RT} {nd : Nd} (h : TreeN w B (.mk op st ks) nd) : KidsAt w B nd.kp ks ∧ nd.kn = ks.length ∧ nd.op = (op : Int) ∧ nd.set = st := by
  unfold TreeN at h
  obtain ⟨h1, h2, nds, h3, h4, h5⟩ := h
  obtain ⟨p, c, hp, _⟩ := rg_own_form h3
  unfold Nd.kids at hp h3 h4
  injection hp with e1 e2 e3
  refine ⟨fun k t hk => ?_, e2, h1, h2⟩
  have hkl : k < ks.length := (List.getElem?_eq_some_iff.1 hk).1
  obtain ⟨x, hx, ht⟩ := h5.get k t hk
  obtain ⟨n, hn⟩ : ∃ n, ks.length = n + 1 := ⟨ks.length - 1, by omega⟩
  have h3' := h3
  rw [hn] at h3'
  obtain ⟨g, c2, hg, _⟩ := rg_own_succ h3'
  injection hg with f1 f2 f3
  have hb := rg_own_base h3 g (by rw [f1]; rfl)
  rw [f1] at h3 h4
  have hl : k < nds.length := by rw [h5.len]; omega
  have he : nds[k] = x := by rw [List.getElem?_eq_getElem hl] at hx; exact Option.some.inj hx
  have q : ∀ j, j < 6 → w.cell? ⟨g, k * 6 + j, none⟩ = x.vals[j]? := fun j hj => by
    rw [f2, ← hn] at h3
    rw [h3.cellAt (k * 6 + j) (by omega), ndRow_get _ k j hl hj, he]
  exact ⟨g, x, f1, h4 g rfl, hb.2, ⟨q 0 (by omega), q 1 (by omega), q 2 (by omega), q 3 (by omega), q 4 (by omega), q 5 (by omega)⟩, ht⟩
theorem Cells6.kept {w w' : World} {g o : Nat} {x : Nd} (h : Cells6 w g o x) (hk : w'.heap[g]? = w.heap[g]?) : Cells6 w' g o x :=
  ⟨(World.cell?_of_block (a := ⟨g, o, none⟩) hk).trans h.c0, (World.cell?_of_block (a := ⟨g, o + 1, none⟩) hk).trans h.c1, (World.cell?_of_block (a := ⟨g, o + 2, none⟩) hk).trans h.c2,
    (World.cell?_of_block (a := ⟨g, o + 3, none⟩) hk).trans h.c3, (World.cell?_of_block (a := ⟨g, o + 4, none⟩) hk).trans h.c4, (World.cell?_of_block (a := ⟨g, o + 5, none⟩) hk).trans h.c5⟩
theorem KidsAt.kept {w w' : World} {B : Nat → Prop} {kp : Option Addr} {ks : List RT} (h : KidsAt w B kp ks) (hk : ∀ g, B g → g < w.heap.size → w'.heap[g]? = w.heap[g]?) (hs : w.heap.size ≤ w'.heap.size) : KidsAt w' B kp ks := fun k t e => by
  obtain ⟨g, x, h1, h2, h3, h4, h5⟩ := h k t e
  exact ⟨g, x, h1, h2, by omega, h4.kept (hk g h2 h3), h5.kept hk (fun _ h _ => h)⟩
theorem KidsAt.chg {C : Nat → Prop} {w w' : World} {B : Nat → Prop} {kp : Option Addr} {ks : List RT} (h : KidsAt w B kp ks) (hc : Chg C w w') (hB : ∀ g, B g → g < w.heap.size → ¬ C g) : KidsAt w' B kp ks :=
  h.kept (fun g hg hl => hc.block g hl (hB g hg hl)) hc.size
/-- A bool of a piece is set. -/
theorem pc_set {w : World} {gp m : Nat} {E : Nat → Bool} {gf gl : Nat} (h : PcB w gp m E gf gl) (i : Nat) (hi : i < 4) (b : Bool) : PcB (w.setCell ⟨gp, i, none⟩ (.bool b)) gp m (fun j => if j = i then b else E j) gf gl := by
  have h1 := rg_setCell (i := i) h (.bool b)
  unfold PcB
  rw [h1]
  have : i = 0 ∨ i = 1 ∨ i = 2 ∨ i = 3 := by omega
  rcases this with rfl | rfl | rfl | rfl <;> simp
theorem pc_cell {w : World} {gp m : Nat} {E : Nat → Bool} {gf gl : Nat} (h : PcB w gp m E gf gl) (i : Nat) (hi : i < 4) : w.cell? ⟨gp, i, none⟩ = some (.bool (E i)) := by
  rw [rg_cell h]
  have : i = 0 ∨ i = 1 ∨ i = 2 ∨ i = 3 := by omega
  rcases this with rfl | rfl | rfl | rfl <;> rfl
theorem PcB.congr {w : World} {gp m : Nat} {E E' : Nat → Bool} {gf gl : Nat} (h : PcB w gp m E gf gl) (e : ∀ i, i < 4 → E i = E' i) : PcB w gp m E' gf gl := by
  unfold PcB at h ⊢
  rw [← e 0 (by omega), ← e 1 (by omega), ← e 2 (by omega), ← e 3 (by omega)]
  exact h
theorem PcZ.kept {w w' : World} {b : Nat} (h : PcZ w b) (hk : w'.heap[b]? = w.heap[b]?) : PcZ w' b := hk.trans h
/-- Which bytes a leaf's set has. -/
def hasP (s : W4) (c : Nat) : Prop := s.has c = true
/-- CONTRACT of piece at a tree. -/
def PieceC (t : RT) : Prop := ∀ (w : World) (d : Bd) (n : Nat) (T B : Nat → Nat → Prop) (nd : Nd) (K : Nat → Prop), d.ok → Bl w d n T B → TreeN w K t nd → (∀ g, K g → g < w.heap.size → ¬ d.own g ∧ g ≠ d.p) → t.Ok → n + leafN t ≤ d.L →
  Calls Tryz.prog 37 #[.pointer (some ⟨d.b, 0, none⟩), nd.val] w (PcPost w d (n + leafN t) (fun c x => T c x ∨ Tks hasP t n x c) (fun r x => B r x ∨ Bhd t n r x) (emp t) (Fst t n) (Lst t n))
end Go.Proofs.YtmlpkimbcjkbkaaGreatDoor

namespace Go.Proofs.YtmlpkimbcjkbkaaGreatDoor
open Go.RowKit

/-- What the loop over a node's kids holds: j of them are done. -/
structure AltI (w : World) (d : Bd) (n : Nat) (T B : Nat → Nat → Prop) (E : Nat → Bool) (F G : Nat → Nat → Prop) (pre : List RT) (bh : Nat → Nat → Prop) (gp gf gl : Nat) (W : World) : Prop where
  pc : Pc W d.m w.heap.size gf gl F G
  pb : PcB W gp d.m E gf gl
  bl : Bl W d (n + leavesN pre) (fun c x => T c x ∨ TksL hasP pre n x c) (fun r x => B r x ∨ bh r x)
  chg : Chg d.own w W
  rz : PcZ W w.heap.size
  gpl : w.heap.size < gp
  nf : gf ≠ gp ∧ gf ≠ w.heap.size
  nl : gl ≠ gp ∧ gl ≠ w.heap.size
set_option maxHeartbeats 16000000 in
set_option maxRecDepth 100000 in
theorem malt_any (ks : List RT) (hPC : ∀ t ∈ ks, PieceC t) {w : World} {d : Bd} {n : Nat} {T B : Nat → Nat → Prop} {K : Nat → Prop} {kp : Option Addr} (kc : Nat) (hd : d.ok) (h : Bl w d n T B) (hk : KidsAt w K kp ks)
    (hK : ∀ g, K g → g < w.heap.size → ¬ d.own g ∧ g ≠ d.p) (hok : OkL ks) (hn : n + leavesN ks ≤ d.L) (hlen : ks.length ≤ 1000000) :
    Calls Tryz.prog 73 #[.pointer (some ⟨d.b, 0, none⟩), .slice kp ks.length kc] w (PcPost w d (n + leavesN ks) (fun c x => T c x ∨ TksL hasP ks n x c) (fun r x => B r x ∨ BhdA ks n r x) (empA ks) (FstA ks n) (LstA ks n)) := by
  have hdm := hd.m
  have hdL := hd.L
  have hlt := h.lt
  have CN : Hid (∀ Z, Below w.heap.size w Z → Calls Tryz.prog 74 #[.pointer (some ⟨d.b, 0, none⟩), .agg #[.bool false, .bool false, .bool false, .bool false]] Z fun e w' => ∃ gf gl, e = .returned (pcV d.m (fun _ => false) gf gl) ∧ Pc w' d.m Z.heap.size gf gl (fun _ _ => False) (fun _ _ => False) ∧ Below Z.heap.size Z w') := Lib.hid fun Z hZ => mnot_any hd (h.kept fun k _ hl => hZ.block k hl) (fun _ => false)
  obtain ⟨W1, hW1⟩ : ∃ W1, w.alloc (.cells #[.bool false, .bool false, .bool false, .bool false, .int .i64 0, .slice none 0 0, .int .i64 0, .slice none 0 0] 88) = W1 := ⟨_, rfl⟩
  have hb1 : Below w.heap.size w W1 := by rw [← hW1]; exact (Below.refl _ _).alloc (Nat.le_refl _) _
  have hz1 : W1.heap.size = w.heap.size + 1 := by rw [← hW1]; simp
  have hx1 : PcZ W1 w.heap.size := by rw [← hW1]; exact mt_heap_new _ _
  have HX1 := Lib.hid hx1
  have HB1 := Lib.hid hb1
  have HW1 := Lib.hid hW1
  have HBL := Lib.hid h
  have HD := Lib.hid hd
  have HKD := Lib.hid hk
  have HKN := Lib.hid hK
  have HOK := Lib.hid hok
  have HPC := Lib.hid hPC
  have HKL : Hid (leavesN ks + n ≤ d.L) := Lib.hid (by omega)
  clear h hx1 hb1 hW1 hd hk hK hok hPC hn
  go_enter Tryz.func73, Tryz.ntmps73
  go_wp2_with fail
  rw [HW1.out]
  clear HW1
  refine (CN.out _ HB1.out).mono ?_
  rintro e w2 ⟨gf, gl, rfl, hpc, hb2⟩
  have hz2 := hb2.size
  have hgf := hpc.f.lt
  have hgl := hpc.l.lt
  have hbf := hpc.bf
  have hbl := hpc.bl
  obtain ⟨W3, hW3⟩ : ∃ W3, w2.alloc (.cells #[.bool false, .bool false, .bool false, .bool false, .int .i64 (d.m : Int), .slice (some ⟨gf, 0, none⟩) (4 * d.m) (4 * d.m), .int .i64 (d.m : Int), .slice (some ⟨gl, 0, none⟩) (4 * d.m) (4 * d.m)] 88) = W3 := ⟨_, rfl⟩
  have hb3 : Below w2.heap.size w2 W3 := by rw [← hW3]; exact (Below.refl _ _).alloc (Nat.le_refl _) _
  have hz3 : W3.heap.size = w2.heap.size + 1 := by rw [← hW3]; simp
  have hB3 : Below w.heap.size w W3 := (HB1.out.trans (hb2.mono (by omega))).trans (hb3.mono (by omega))
  have HI3 : Hid (AltI w d n T B (empA []) (FstA [] n) (LstA [] n) [] (BhdA [] n) w2.heap.size gf gl W3) := Lib.hid
    ⟨((hpc.next hb3).less (by omega)).congr (fun i x _ _ => by simp [FstA]) (fun i x _ _ => by simp [LstA]), PcB.congr (E := fun _ => false) (by rw [← hW3]; exact mt_heap_new _ _) (fun i _ => by simp [empA]),
      ((HBL.out.next hB3).congr (fun i x _ _ => by simp [TksL]) (fun i x _ _ => by simp [BhdA]) hdL), Chg.of_below hB3 (Nat.le_refl _), (hb3.block _ (by omega)).trans ((hb2.block _ (by omega)).trans HX1.out), by omega, ⟨by omega, by omega⟩, ⟨by omega, by omega⟩⟩
  have HW3 := Lib.hid hW3
  clear hpc hb2 hb3 hW3 HX1 HB1 CN hB3 
  unfold pcV
  go_wp2_with fail
  rw [HW3.out]
  clear HW3
  generalize w2.heap.size = gp at *
  clear hbf hbl hgf hgl hz2 hz3
  go_loopw [15] (fun iv wr => ∃ (j gf gl : Nat), j ≤ ks.length ∧ iv = .int .i64 (j : Int) ∧ Hid (AltI w d n T B (empA (ks.take j)) (FstA (ks.take j) n) (LstA (ks.take j) n) (ks.take j) (BhdA (ks.take j) n) gp gf gl wr)) (fun iv _ => ks.length - (intOf iv).toNat)
  case atStart => exact ⟨0, gf, gl, Nat.zero_le _, rfl, HI3⟩
  case round =>
    clear HI3
    obtain ⟨j, gf, gl, hj, rfl, HI⟩ := hrel
    by_cases hjl : j < ks.length
    · have hji : (j : Int) < (ks.length : Int) := by omega
      obtain ⟨t, ht⟩ : ∃ t, ks[j]? = some t := ⟨ks[j], List.getElem?_eq_getElem hjl⟩
      have htm : t ∈ ks := List.mem_of_getElem? ht
      obtain ⟨g, x, hkp, hKg, hgl9, hc6, htr⟩ := HKD.out j t ht
      have hng := HKN.out g hKg hgl9
      have HTK : Hid (ks.take (j + 1) = ks.take j ++ [t]) := Lib.hid (by rw [List.take_add_one, ht]; rfl)
      have HLV : Hid (n + leavesN (ks.take j) + leafN t ≤ d.L ∧ leavesN (ks.take j ++ [t]) = leavesN (ks.take j) + leafN t) := Lib.hid (by
        have h1 := leavesN_snoc t (ks.take j)
        have h2 : leavesN (ks.take (j + 1)) ≤ leavesN ks := by
          conv => rhs; rw [← List.take_append_drop (j + 1) ks]
          rw [leavesN_append]; omega
        rw [HTK.out, h1] at h2
        exact ⟨by have := HKL.out; omega, h1⟩)
      have hcw : Cells6 wr g (j * 6) x := hc6.kept (HI.out.chg.block g hgl9 hng.1)
      have HTR : Hid (TreeN wr (fun g => K g ∧ g < w.heap.size) t x) := Lib.hid (htr.kept (fun g hg hl => HI.out.chg.block g hl (HKN.out g hg hl).1) (fun g hg hl => ⟨hg, hl⟩))
      have HPt := Lib.hid (HPC.out t htm)
      have HOt := Lib.hid (HOK.out.mem t htm)
      have HTM := Lib.hid ht
      obtain ⟨k0, k1, k2, k3, k4, k5⟩ := hcw
      subst hkp
      have hw9 := HI.out.chg.size
      obtain ⟨W5, hW5⟩ : ∃ x, x = wr := ⟨_, rfl⟩
      subst hW5
      clear ht htm hKg hc6 htr
      obtain ⟨W6, hW6⟩ : ∃ W6, W5.alloc (.cells #[.int .i64 x.op, .int .u64 x.set.a, .int .u64 x.set.b, .int .u64 x.set.c, .int .u64 x.set.d, .slice x.kp x.kn x.kc] 45) = W6 := ⟨_, rfl⟩
      have hb6 : Below W5.heap.size W5 W6 := by rw [← hW6]; exact (Below.refl _ _).alloc (Nat.le_refl _) _
      have HB6 := Lib.hid hb6
      have HW6 := Lib.hid hW6
      have hz6 := hb6.size
      have CP : Hid (Calls Tryz.prog 37 #[.pointer (some ⟨d.b, 0, none⟩), .agg #[.int .i64 x.op, .int .u64 x.set.a, .int .u64 x.set.b, .int .u64 x.set.c, .int .u64 x.set.d, .slice x.kp x.kn x.kc]] W6 (PcPost W6 d (n + leavesN (ks.take j) + leafN t) (fun c x => (T c x ∨ TksL hasP (ks.take j) n x c) ∨ Tks hasP t (n + leavesN (ks.take j)) x c) (fun r x => (B r x ∨ BhdA (ks.take j) n r x) ∨ Bhd t (n + leavesN (ks.take j)) r x) (emp t) (Fst t (n + leavesN (ks.take j))) (Lst t (n + leavesN (ks.take j))))) := Lib.hid
        (HPt.out W6 d _ _ _ x (fun g => K g ∧ g < w.heap.size) HD.out (HI.out.bl.next hb6) (HTR.out.kept (fun g _ hl => hb6.block g hl) (fun g hg _ => hg)) (fun g hg _ => HKN.out g hg.1 hg.2) HOt.out HLV.out.1)
      clear hb6 hW6 HPt HOt HTR
      go_wp2_with fail
      rw [HW6.out]
      clear HW6
      refine CP.out.mono ?_
      rintro e w7 ⟨gf2, gl2, rfl, hpc2, hbl2, hch2⟩
      have HBL7 := Lib.hid hbl2
      have HPK7 := Lib.hid hpc2
      have hz7 := hch2.size
      have hpf := HI.out.pc
      have hgpl := HI.out.gpl
      have hnf := HI.out.nf
      have hnl := HI.out.nl
      have hne := hpf.ne
      have hbf := hpf.bf
      have hbl := hpf.bl
      have hgf5 := hpf.f.lt
      have hgl5 := hpf.l.lt
      have hgp5 := HI.out.pb.lt
      have hbf2 := hpc2.bf
      have hbl2' := hpc2.bl
      have hgf7 := hpc2.f.lt
      have hgl7 := hpc2.l.lt
      have hne2 := hpc2.ne
      have hown : ∀ k, w.heap.size ≤ k → ¬ d.own k := fun k hk hc => by rcases hc with rfl | rfl | rfl | rfl <;> omega
      have HCH7 : Hid (Chg d.own w w7) := Lib.hid ((HI.out.chg.then (Chg.of_below HB6.out (Nat.le_refl _))).then (hch2))
      have hk57 : ∀ k, w.heap.size ≤ k → k < W5.heap.size → w7.heap[k]? = W5.heap[k]? := fun k h1 h2 => (hch2.block k (by omega) (hown k h1)).trans (HB6.out.block k h2)
      have HPF7 : Hid (Tb w7 gf 4 d.m (FstA (ks.take j) n)) := Lib.hid (hpf.f.kept (hk57 gf hbf hgf5))
      have HPG7 : Hid (Tb w7 gl 4 d.m (LstA (ks.take j) n)) := Lib.hid (hpf.l.kept (hk57 gl hbl hgl5))
      have HPB7 : Hid (PcB w7 gp d.m (empA (ks.take j)) gf gl) := Lib.hid (HI.out.pb.kept (hk57 gp (by omega) hgp5))
      have HRZ7 : Hid (PcZ w7 w.heap.size) := Lib.hid (HI.out.rz.kept (hk57 _ (Nat.le_refl _) (by omega)))
      obtain ⟨W8, hW8⟩ : ∃ W8, w7.alloc (.cells #[.bool (emp t 0), .bool (emp t 1), .bool (emp t 2), .bool (emp t 3), .int .i64 (d.m : Int), .slice (some ⟨gf2, 0, none⟩) (4 * d.m) (4 * d.m), .int .i64 (d.m : Int), .slice (some ⟨gl2, 0, none⟩) (4 * d.m) (4 * d.m)] 88) = W8 := ⟨_, rfl⟩
      have hb8 : Below w7.heap.size w7 W8 := by rw [← hW8]; exact (Below.refl _ _).alloc (Nat.le_refl _) _
      have hz8 : W8.heap.size = w7.heap.size + 1 := by rw [← hW8]; simp
      have HK8 : Hid (PcB W8 w7.heap.size d.m (emp t) gf2 gl2) := Lib.hid (by rw [← hW8]; exact mt_heap_new _ _)
      have HB8 := Lib.hid hb8
      have HW8 := Lib.hid hW8
      have HF8 := Lib.hid (HPF7.out.next hb8)
      have HG8 := Lib.hid (HPG7.out.next hb8)
      have HPB8 : Hid (PcB W8 gp d.m (empA (ks.take j)) gf gl) := Lib.hid (HPB7.out.kept (hb8.block gp (by omega)))
      have HRZ8 : Hid (PcZ W8 w.heap.size) := Lib.hid (HRZ7.out.kept (hb8.block _ (by omega)))
      have HF28 := Lib.hid (HPK7.out.f.next hb8)
      have HG28 := Lib.hid (HPK7.out.l.next hb8)
      have HBL8 := Lib.hid (HBL7.out.next hb8)
      have HCH8 : Hid (Chg d.own w W8) := Lib.hid (HCH7.out.then (Chg.of_below hb8 (Nat.le_refl _)))
      clear hbl2 hpc2 hch2 hpf hk57 hb8 hW8 HPF7 HPG7 HPB7 HRZ7 HPK7 HBL7 HCH7 HI HB6 CP
      unfold pcV
      obtain ⟨E, hE⟩ : ∃ E, empA (ks.take j) = E := ⟨_, rfl⟩
      obtain ⟨F, hF⟩ : ∃ F, FstA (ks.take j) n = F := ⟨_, rfl⟩
      obtain ⟨G, hG⟩ : ∃ G, LstA (ks.take j) n = G := ⟨_, rfl⟩
      obtain ⟨n2, hn2⟩ : ∃ n2, n + leavesN (ks.take j) = n2 := ⟨_, rfl⟩
      obtain ⟨E2, hE2⟩ : ∃ E2, emp t = E2 := ⟨_, rfl⟩
      rw [hn2] at HF28 HG28 HBL8
      obtain ⟨F2, hF2⟩ : ∃ F2, Fst t n2 = F2 := ⟨_, rfl⟩
      obtain ⟨G2, hG2⟩ : ∃ G2, Lst t n2 = G2 := ⟨_, rfl⟩
      rw [hE2] at HK8 HW8 ⊢
      rw [hE] at HPB8
      rw [hF] at HF8
      rw [hG] at HG8
      rw [hF2] at HF28
      rw [hG2] at HG28
      have HDF := Lib.hid (And.intro hE (And.intro hF (And.intro hG (And.intro hn2 (And.intro hE2 (And.intro hF2 hG2))))))
      clear hE hF hG hn2 hE2 hF2 hG2
      go_wp2_with fail
      rw [HW8.out]
      clear HW8
      obtain ⟨gk, hgk⟩ : ∃ gk, w7.heap.size = gk := ⟨_, rfl⟩
      rw [hgk] at HK8 hz8 hz7 hgf7 hgl7 ⊢
      clear hgk
      go_loopw [22] (fun iv wr => ∃ i : Nat, i ≤ 4 ∧ iv = .int .i64 (i : Int) ∧ Hid (Tb wr gf 4 d.m (fun r x => F r x ∨ (r < i ∧ F2 r x)) ∧ Tb wr gl 4 d.m (fun r x => G r x ∨ (r < i ∧ G2 r x)) ∧ PcB wr gp d.m (fun r => if r < i then E r || E2 r else E r) gf gl ∧ Chg (fun k => k = gf ∨ k = gl ∨ k = gp) W8 wr)) (fun iv _ => 4 - (intOf iv).toNat)
      case atStart => exact ⟨0, Nat.zero_le _, rfl, Lib.hid ⟨HF8.out.congr (fun r x _ _ => by simp), HG8.out.congr (fun r x _ _ => by simp), HPB8.out.congr (fun r _ => by simp), Chg.refl _ _⟩⟩
      case round =>
        clear HF8 HG8 HPB8
        obtain ⟨i, hi, rfl, HR⟩ := hrel
        by_cases hi4 : i < 4
        · have hii : (i : Int) < 4 := by omega
          have hi0 : 0 ≤ (i : Int) := by omega
          have c1 : wr.cell? ⟨gp, i, none⟩ = some (.bool (E i)) := by
            rw [pc_cell HR.out.2.2.1 i hi4]; simp
          have f1 : wr.frozen? ⟨gp, i, none⟩ = false := rg_frozen HR.out.2.2.1
          have HKr : Hid (PcB wr gk d.m E2 gf2 gl2) := Lib.hid ((HR.out.2.2.2.block gk HK8.out.lt (by omega)).trans HK8.out)
          have c2 : wr.cell? ⟨gk, i, none⟩ = some (.bool (E2 i)) := pc_cell HKr.out i hi4
          have HNB : Hid (∀ b, b = (E i || E2 i) → PcB (wr.setCell ⟨gp, i, none⟩ (.bool b)) gp d.m (fun r => if r < i + 1 then E r || E2 r else E r) gf gl) := Lib.hid fun b hb => (pc_set HR.out.2.2.1 i hi4 b).congr fun r _ => by
            by_cases hr : r = i
            · subst hr; simp [hb]
            · rw [if_neg hr]
              have : r < i ↔ r < i + 1 := by omega
              simp only [this]
          obtain ⟨b1, hb1⟩ : ∃ b, E i = b := ⟨_, rfl⟩
          obtain ⟨b2, hb2⟩ : ∃ b, E2 i = b := ⟨_, rfl⟩
          rw [hb1] at c1 HNB
          rw [hb2] at c2 HNB
          clear hb1 hb2
          obtain ⟨W9, hW9⟩ : ∃ W9, wr.setCell ⟨gp, i, none⟩ (.bool (b1 || b2)) = W9 := ⟨_, rfl⟩
          have ho9 : Onl gp wr W9 := by rw [← hW9]; exact (Onl.refl _ _).setCell _ _
          have HP9 : Hid (PcB W9 gp d.m (fun r => if r < i + 1 then E r || E2 r else E r) gf gl) := Lib.hid (by rw [← hW9]; exact HNB.out _ rfl)
          have HF9 := Lib.hid (HR.out.1.onl ho9 (by omega))
          have HG9 := Lib.hid (HR.out.2.1.onl ho9 (by omega))
          have HF29 : Hid (Tb W9 gf2 4 d.m F2) := Lib.hid ((HF28.out.chg HR.out.2.2.2 (by omega)).onl ho9 (by omega))
          have HG29 : Hid (Tb W9 gl2 4 d.m G2) := Lib.hid ((HG28.out.chg HR.out.2.2.2 (by omega)).onl ho9 (by omega))
          have HK9 : Hid (PcB W9 gk d.m E2 gf2 gl2) := Lib.hid (HKr.out.kept (ho9.block gk HKr.out.lt (by omega)))
          have HC9 : Hid (Chg (fun k => k = gf ∨ k = gl ∨ k = gp) W8 W9) := Lib.hid (HR.out.2.2.2.then (Chg.of_onl ho9 (fun _ => .inr (.inr rfl))))
          have HW9 := Lib.hid hW9
          clear HR HKr HNB ho9 hW9
          cases b1
          all_goals
            simp only [Bool.true_or, Bool.false_or] at HW9
            go_upto_region 10 with fail
            rw [HW9.out]
            clear HW9
            have HSKA : Hid (∀ Z, Onl gf W9 Z → Z.cell? ⟨gp, 4, none⟩ = some (.int .i64 (d.m : Int)) ∧ Z.cell? ⟨gp, 5, none⟩ = some (.slice (some ⟨gf, 0, none⟩) (4 * d.m) (4 * d.m)) ∧ Z.cell? ⟨gp, 6, none⟩ = some (.int .i64 (d.m : Int)) ∧ Z.cell? ⟨gp, 7, none⟩ = some (.slice (some ⟨gl, 0, none⟩) (4 * d.m) (4 * d.m)) ∧ Z.cell? ⟨gk, 4, none⟩ = some (.int .i64 (d.m : Int)) ∧ Z.cell? ⟨gk, 5, none⟩ = some (.slice (some ⟨gf2, 0, none⟩) (4 * d.m) (4 * d.m)) ∧ Z.cell? ⟨gk, 6, none⟩ = some (.int .i64 (d.m : Int)) ∧ Z.cell? ⟨gk, 7, none⟩ = some (.slice (some ⟨gl2, 0, none⟩) (4 * d.m) (4 * d.m))) := Lib.hid fun Z hZ => by
              have e1 := (hZ.block gp HP9.out.lt (by omega)).trans HP9.out
              have e2 := (hZ.block gk HK9.out.lt (by omega)).trans HK9.out
              exact ⟨rg_cell e1, rg_cell e1, rg_cell e1, rg_cell e1, rg_cell e2, rg_cell e2, rg_cell e2, rg_cell e2⟩
            have CR1A : Hid (∀ Z, Calls Tryz.prog 41 #[.agg #[.int .i64 (d.m : Int), .slice (some ⟨gf, 0, none⟩) (4 * d.m) (4 * d.m)], .int .i64 (i : Int)] Z fun e w' => e = .returned (.slice (some ⟨gf, rwO 4 d.m i, none⟩) d.m (4 * d.m - i * d.m)) ∧ Below Z.heap.size Z w') := Lib.hid fun Z =>
              (mrow_any gf 4 d.m i hi4 (by omega) (by omega) Z).mono fun e w' ⟨h1, h2⟩ => ⟨h1, by rw [h2]; exact (Below.refl _ _).alloc (Nat.le_refl _) _⟩
            have CR2A : Hid (∀ Z, Calls Tryz.prog 41 #[.agg #[.int .i64 (d.m : Int), .slice (some ⟨gf2, 0, none⟩) (4 * d.m) (4 * d.m)], .int .i64 (i : Int)] Z fun e w' => e = .returned (.slice (some ⟨gf2, rwO 4 d.m i, none⟩) d.m (4 * d.m - i * d.m)) ∧ Below Z.heap.size Z w') := Lib.hid fun Z =>
              (mrow_any gf2 4 d.m i hi4 (by omega) (by omega) Z).mono fun e w' ⟨h1, h2⟩ => ⟨h1, by rw [h2]; exact (Below.refl _ _).alloc (Nat.le_refl _) _⟩
            have CJA : Hid (∀ Z, Below W9.heap.size W9 Z → Calls Tryz.prog 40 #[.slice (some ⟨gf, rwO 4 d.m i, none⟩) d.m (4 * d.m - i * d.m), .slice (some ⟨gf2, rwO 4 d.m i, none⟩) d.m (4 * d.m - i * d.m)] Z fun e w' => e = .returned (.tuple #[]) ∧ Tb w' gf 4 d.m (fun r x => (F r x ∨ (r < i ∧ F2 r x)) ∨ (r = i ∧ F2 i x)) ∧ Sm gf Z w') := Lib.hid fun Z hZ =>
              mjoin_any (HF9.out.next hZ) (HF29.out.next hZ) (by omega) hi4 hi4 (by omega) (fun h => rwO_eq hi4 h) (fun h => rwO_eq hi4 h) _ _
            have HHA := HSKA.out _ (Onl.of_below (drew_below W9) (Nat.le_refl _))
            go_wp2_with fail
            refine wp_region_L (st := []) (S := fun Z => Z.cell? ⟨gp, 4, none⟩ = some (.int .i64 (d.m : Int)) ∧ Z.cell? ⟨gp, 5, none⟩ = some (.slice (some ⟨gf, 0, none⟩) (4 * d.m) (4 * d.m)) ∧ Z.cell? ⟨gp, 6, none⟩ = some (.int .i64 (d.m : Int)) ∧ Z.cell? ⟨gp, 7, none⟩ = some (.slice (some ⟨gl, 0, none⟩) (4 * d.m) (4 * d.m)) ∧ Z.cell? ⟨gk, 4, none⟩ = some (.int .i64 (d.m : Int)) ∧ Z.cell? ⟨gk, 5, none⟩ = some (.slice (some ⟨gf2, 0, none⟩) (4 * d.m) (4 * d.m)) ∧ Z.cell? ⟨gk, 6, none⟩ = some (.int .i64 (d.m : Int)) ∧ Z.cell? ⟨gk, 7, none⟩ = some (.slice (some ⟨gl2, 0, none⟩) (4 * d.m) (4 * d.m))) (by kernel_rfl) HHA (fun hHeld => ?_)
            have HV8 := Lib.hid (drew_below W9)
            clear HHA
            refine tkL 0 (v := ?_) rfl ?_ ?_
            rotate_left
            · (intro w hSw; obtain ⟨q0, q1, q2, q3, q4, q5, q6, q7⟩ := hSw; go_simp; try with_reducible rfl)
            try simp only [nrm]
            refine tkL 1 (v := ?_) rfl ?_ ?_
            rotate_left
            · (intro w hSw; obtain ⟨q0, q1, q2, q3, q4, q5, q6, q7⟩ := hSw; go_simp; try with_reducible rfl)
            try simp only [nrm]
            refine tkL 2 (v := ?_) rfl ?_ ?_
            rotate_left
            · (intro w hSw; obtain ⟨q0, q1, q2, q3, q4, q5, q6, q7⟩ := hSw; go_simp; try with_reducible rfl)
            try simp only [nrm]
            refine tkL 4 (v := ?_) rfl ?_ ?_
            rotate_left
            · (intro w hSw; obtain ⟨q0, q1, q2, q3, q4, q5, q6, q7⟩ := hSw; go_simp; try with_reducible rfl)
            try simp only [nrm]
            refine tkL 5 (v := ?_) rfl ?_ ?_
            rotate_left
            · (intro w hSw; obtain ⟨q0, q1, q2, q3, q4, q5, q6, q7⟩ := hSw; go_simp; try with_reducible rfl)
            try simp only [nrm]
            refine tkL 6 (v := ?_) rfl ?_ ?_
            rotate_left
            · (intro w hSw; obtain ⟨q0, q1, q2, q3, q4, q5, q6, q7⟩ := hSw; go_simp; try with_reducible rfl)
            try simp only [nrm]
            refine rdL 3 rfl (fun K hK => ?_)
            go_simp
            refine (CR1A.out _).mono ?_
            rintro e w9 ⟨rfl, hb9⟩
            have HV9 := Lib.hid (HV8.out.trans (hb9.mono HV8.out.size))
            have hH9 := HSKA.out _ (Onl.of_below HV9.out (Nat.le_refl _))
            refine hK.out _ _ hH9 (fun hHeld => ?_)
            clear hK K hb9 HV8 hH9
            have HV8 := HV9
            clear HV9
            try simp only [nrm]
            refine rdL 7 rfl (fun K hK => ?_)
            go_simp
            refine (CR2A.out _).mono ?_
            rintro e w9 ⟨rfl, hb9⟩
            have HV9 := Lib.hid (HV8.out.trans (hb9.mono HV8.out.size))
            have hH9 := HSKA.out _ (Onl.of_below HV9.out (Nat.le_refl _))
            refine hK.out _ _ hH9 (fun hHeld => ?_)
            clear hK K hb9 HV8 hH9
            have HV8 := HV9
            clear HV9
            try simp only [nrm]
            refine rdL 8 rfl (fun K hK => ?_)
            go_simp
            refine (CJA.out _ HV8.out).mono ?_
            rintro e WA ⟨rfl, ht, hs⟩
            have HTA := Lib.hid ht
            have HSA : Hid (Onl gf W9 WA) := Lib.hid ((Onl.of_below HV8.out (Nat.le_refl _)).trans hs.onl)
            clear ht hs
            refine hK.out _ _ (HSKA.out _ HSA.out) (fun hHeld => ?_)
            clear hK K
            try simp only [nrm]
            refine wpAnyL_done (by kernel_rfl) ?_ _
            clear hHeld HV8 HSKA CR1A CR2A CJA
            have HPA : Hid (PcB WA gp d.m (fun r => if r < i + 1 then E r || E2 r else E r) gf gl) := Lib.hid (HP9.out.kept (HSA.out.block gp HP9.out.lt (by omega)))
            have HKA : Hid (PcB WA gk d.m E2 gf2 gl2) := Lib.hid (HK9.out.kept (HSA.out.block gk HK9.out.lt (by omega)))
            have HGA := Lib.hid (HG9.out.onl HSA.out (by omega))
            have HG2A := Lib.hid (HG29.out.onl HSA.out (by omega))
            have HCA := Lib.hid (HC9.out.then (Chg.of_onl HSA.out (fun _ => .inl rfl)))
            have HTA2 : Hid (Tb WA gf 4 d.m (fun r x => F r x ∨ (r < i + 1 ∧ F2 r x))) := Lib.hid (HTA.out.congr fun r x _ _ => by
              by_cases hr : r = i
              · subst hr; simp
              · have : r < i ↔ r < i + 1 := by omega
                simp [this, hr])
            clear HTA HSA HP9 HK9 HG9 HG29 HC9 HF9 HF29
            have HSKB : Hid (∀ Z, Onl gl WA Z → Z.cell? ⟨gp, 4, none⟩ = some (.int .i64 (d.m : Int)) ∧ Z.cell? ⟨gp, 5, none⟩ = some (.slice (some ⟨gf, 0, none⟩) (4 * d.m) (4 * d.m)) ∧ Z.cell? ⟨gp, 6, none⟩ = some (.int .i64 (d.m : Int)) ∧ Z.cell? ⟨gp, 7, none⟩ = some (.slice (some ⟨gl, 0, none⟩) (4 * d.m) (4 * d.m)) ∧ Z.cell? ⟨gk, 4, none⟩ = some (.int .i64 (d.m : Int)) ∧ Z.cell? ⟨gk, 5, none⟩ = some (.slice (some ⟨gf2, 0, none⟩) (4 * d.m) (4 * d.m)) ∧ Z.cell? ⟨gk, 6, none⟩ = some (.int .i64 (d.m : Int)) ∧ Z.cell? ⟨gk, 7, none⟩ = some (.slice (some ⟨gl2, 0, none⟩) (4 * d.m) (4 * d.m))) := Lib.hid fun Z hZ => by
              have e1 := (hZ.block gp HPA.out.lt (by omega)).trans HPA.out
              have e2 := (hZ.block gk HKA.out.lt (by omega)).trans HKA.out
              exact ⟨rg_cell e1, rg_cell e1, rg_cell e1, rg_cell e1, rg_cell e2, rg_cell e2, rg_cell e2, rg_cell e2⟩
            have CR1B : Hid (∀ Z, Calls Tryz.prog 41 #[.agg #[.int .i64 (d.m : Int), .slice (some ⟨gl, 0, none⟩) (4 * d.m) (4 * d.m)], .int .i64 (i : Int)] Z fun e w' => e = .returned (.slice (some ⟨gl, rwO 4 d.m i, none⟩) d.m (4 * d.m - i * d.m)) ∧ Below Z.heap.size Z w') := Lib.hid fun Z =>
              (mrow_any gl 4 d.m i hi4 (by omega) (by omega) Z).mono fun e w' ⟨h1, h2⟩ => ⟨h1, by rw [h2]; exact (Below.refl _ _).alloc (Nat.le_refl _) _⟩
            have CR2B : Hid (∀ Z, Calls Tryz.prog 41 #[.agg #[.int .i64 (d.m : Int), .slice (some ⟨gl2, 0, none⟩) (4 * d.m) (4 * d.m)], .int .i64 (i : Int)] Z fun e w' => e = .returned (.slice (some ⟨gl2, rwO 4 d.m i, none⟩) d.m (4 * d.m - i * d.m)) ∧ Below Z.heap.size Z w') := Lib.hid fun Z =>
              (mrow_any gl2 4 d.m i hi4 (by omega) (by omega) Z).mono fun e w' ⟨h1, h2⟩ => ⟨h1, by rw [h2]; exact (Below.refl _ _).alloc (Nat.le_refl _) _⟩
            have CJB : Hid (∀ Z, Below WA.heap.size WA Z → Calls Tryz.prog 40 #[.slice (some ⟨gl, rwO 4 d.m i, none⟩) d.m (4 * d.m - i * d.m), .slice (some ⟨gl2, rwO 4 d.m i, none⟩) d.m (4 * d.m - i * d.m)] Z fun e w' => e = .returned (.tuple #[]) ∧ Tb w' gl 4 d.m (fun r x => (G r x ∨ (r < i ∧ G2 r x)) ∨ (r = i ∧ G2 i x)) ∧ Sm gl Z w') := Lib.hid fun Z hZ =>
              mjoin_any (HGA.out.next hZ) (HG2A.out.next hZ) (by omega) hi4 hi4 (by omega) (fun h => rwO_eq hi4 h) (fun h => rwO_eq hi4 h) _ _
            have HHB := HSKB.out _ (Onl.of_below (drew_below WA) (Nat.le_refl _))
            go_wp2_with fail
            refine wp_region_L (st := []) (S := fun Z => Z.cell? ⟨gp, 4, none⟩ = some (.int .i64 (d.m : Int)) ∧ Z.cell? ⟨gp, 5, none⟩ = some (.slice (some ⟨gf, 0, none⟩) (4 * d.m) (4 * d.m)) ∧ Z.cell? ⟨gp, 6, none⟩ = some (.int .i64 (d.m : Int)) ∧ Z.cell? ⟨gp, 7, none⟩ = some (.slice (some ⟨gl, 0, none⟩) (4 * d.m) (4 * d.m)) ∧ Z.cell? ⟨gk, 4, none⟩ = some (.int .i64 (d.m : Int)) ∧ Z.cell? ⟨gk, 5, none⟩ = some (.slice (some ⟨gf2, 0, none⟩) (4 * d.m) (4 * d.m)) ∧ Z.cell? ⟨gk, 6, none⟩ = some (.int .i64 (d.m : Int)) ∧ Z.cell? ⟨gk, 7, none⟩ = some (.slice (some ⟨gl2, 0, none⟩) (4 * d.m) (4 * d.m))) (by kernel_rfl) HHB (fun hHeld => ?_)
            have HV8 := Lib.hid (drew_below WA)
            clear HHB
            refine tkL 0 (v := ?_) rfl ?_ ?_
            rotate_left
            · (intro w hSw; obtain ⟨q0, q1, q2, q3, q4, q5, q6, q7⟩ := hSw; go_simp; try with_reducible rfl)
            try simp only [nrm]
            refine tkL 1 (v := ?_) rfl ?_ ?_
            rotate_left
            · (intro w hSw; obtain ⟨q0, q1, q2, q3, q4, q5, q6, q7⟩ := hSw; go_simp; try with_reducible rfl)
            try simp only [nrm]
            refine tkL 2 (v := ?_) rfl ?_ ?_
            rotate_left
            · (intro w hSw; obtain ⟨q0, q1, q2, q3, q4, q5, q6, q7⟩ := hSw; go_simp; try with_reducible rfl)
            try simp only [nrm]
            refine tkL 4 (v := ?_) rfl ?_ ?_
            rotate_left
            · (intro w hSw; obtain ⟨q0, q1, q2, q3, q4, q5, q6, q7⟩ := hSw; go_simp; try with_reducible rfl)
            try simp only [nrm]
            refine tkL 5 (v := ?_) rfl ?_ ?_
            rotate_left
            · (intro w hSw; obtain ⟨q0, q1, q2, q3, q4, q5, q6, q7⟩ := hSw; go_simp; try with_reducible rfl)
            try simp only [nrm]
            refine tkL 6 (v := ?_) rfl ?_ ?_
            rotate_left
            · (intro w hSw; obtain ⟨q0, q1, q2, q3, q4, q5, q6, q7⟩ := hSw; go_simp; try with_reducible rfl)
            try simp only [nrm]
            refine rdL 3 rfl (fun K hK => ?_)
            go_simp
            refine (CR1B.out _).mono ?_
            rintro e w9 ⟨rfl, hb9⟩
            have HV9 := Lib.hid (HV8.out.trans (hb9.mono HV8.out.size))
            have hH9 := HSKB.out _ (Onl.of_below HV9.out (Nat.le_refl _))
            refine hK.out _ _ hH9 (fun hHeld => ?_)
            clear hK K hb9 HV8 hH9
            have HV8 := HV9
            clear HV9
            try simp only [nrm]
            refine rdL 7 rfl (fun K hK => ?_)
            go_simp
            refine (CR2B.out _).mono ?_
            rintro e w9 ⟨rfl, hb9⟩
            have HV9 := Lib.hid (HV8.out.trans (hb9.mono HV8.out.size))
            have hH9 := HSKB.out _ (Onl.of_below HV9.out (Nat.le_refl _))
            refine hK.out _ _ hH9 (fun hHeld => ?_)
            clear hK K hb9 HV8 hH9
            have HV8 := HV9
            clear HV9
            try simp only [nrm]
            refine rdL 8 rfl (fun K hK => ?_)
            go_simp
            refine (CJB.out _ HV8.out).mono ?_
            rintro e WB ⟨rfl, ht, hs⟩
            have HTB := Lib.hid ht
            have HSB : Hid (Onl gl WA WB) := Lib.hid ((Onl.of_below HV8.out (Nat.le_refl _)).trans hs.onl)
            clear ht hs
            refine hK.out _ _ (HSKB.out _ HSB.out) (fun hHeld => ?_)
            clear hK K
            try simp only [nrm]
            refine wpAnyL_done (by kernel_rfl) ?_ _
            clear hHeld HV8 HSKB CR1B CR2B CJB
            have HN : Hid (Tb WB gf 4 d.m (fun r x => F r x ∨ (r < i + 1 ∧ F2 r x)) ∧ Tb WB gl 4 d.m (fun r x => G r x ∨ (r < i + 1 ∧ G2 r x)) ∧ PcB WB gp d.m (fun r => if r < i + 1 then E r || E2 r else E r) gf gl ∧ Chg (fun k => k = gf ∨ k = gl ∨ k = gp) W8 WB) := Lib.hid
              ⟨HTA2.out.onl HSB.out (by omega), HTB.out.congr (fun r x _ _ => by
                by_cases hr : r = i
                · subst hr; simp
                · have : r < i ↔ r < i + 1 := by omega
                  simp [this, hr]), HPA.out.kept (HSB.out.block gp HPA.out.lt (by omega)), HCA.out.then (Chg.of_onl HSB.out (fun _ => .inr (.inl rfl)))⟩
            clear HTB HSB HPA HKA HGA HG2A HCA HTA2
            go_wp2_with fail
            refine ⟨⟨i + 1, by omega, by simp, HN⟩, ?_⟩
            simp [intOf]; omega
        · have hii : ¬ (i : Int) < 4 := by omega
          obtain rfl : i = 4 := by omega
          obtain ⟨hE, hF, hG, hn2, hE2, hF2, hG2⟩ := HDF.out
          have HN : Hid (AltI w d n T B (empA (ks.take (j + 1))) (FstA (ks.take (j + 1)) n) (LstA (ks.take (j + 1)) n) (ks.take (j + 1)) (BhdA (ks.take (j + 1)) n) gp gf gl wr) := Lib.hid (by
            have hr := HR.out.2.2.2
            rw [HTK.out]
            refine ⟨⟨HR.out.1.congr (fun r x hr _ => ?_), HR.out.2.1.congr (fun r x hr _ => ?_), hne, by omega, by omega⟩, HR.out.2.2.1.congr (fun r hr => ?_), ?_, HCH8.out.trans hr (fun k hk hc => by omega), HRZ8.out.kept (hr.block _ HRZ8.out.lt (by omega)), hgpl, hnf, hnl⟩
            · rw [FstA_snoc, hF, hn2, hF2]; simp [hr]
            · rw [LstA_snoc, hG, hn2, hG2]; simp [hr]
            · rw [empA_snoc, hE, hE2]; simp [hr]
            · have hbk : Bl wr d (n2 + leafN t) _ _ := HBL8.out.kept fun k hk hl => hr.block k hl (by
                have hzl := HBL.out.dz.lt
                rcases hk with rfl | rfl | rfl | rfl | rfl | rfl <;> omega)
              rw [HLV.out.2, ← Nat.add_assoc, hn2]
              exact hbk.congr (fun c x _ _ => by rw [TksL_snoc, hn2, or_assoc]) (fun r x _ _ => by rw [BhdA_snoc, hn2, or_assoc]) hdL)
          clear HR hE hF hG hn2 hE2 hF2 hG2 HDF HLV HTK HRZ8 HCH8 HBL8 HF28 HG28 HK8
          go_wp2_with fail
          (repeat apply Exists.intro)
          refine ⟨⟨j + 1, gf, gl, by omega, by simp, HN⟩, ?_⟩
          simp [intOf]; omega
    · have hji : ¬ (j : Int) < (ks.length : Int) := by omega
      obtain rfl : j = ks.length := by omega
      rw [List.take_length] at HI
      have e2 := HI.out.pb
      have e3 := HI.out.rz
      have k3 : w.heap.size ≠ gp := by have := HI.out.gpl; omega
      have p0 : wr.cell? ⟨gp, 0, none⟩ = some (.bool (empA ks 0)) := rg_cell e2
      have p1 : wr.cell? ⟨gp, 1, none⟩ = some (.bool (empA ks 1)) := rg_cell e2
      have p2 : wr.cell? ⟨gp, 2, none⟩ = some (.bool (empA ks 2)) := rg_cell e2
      have p3 : wr.cell? ⟨gp, 3, none⟩ = some (.bool (empA ks 3)) := rg_cell e2
      have p4 : wr.cell? ⟨gp, 4, none⟩ = some (.int .i64 (d.m : Int)) := rg_cell e2
      have p5 : wr.cell? ⟨gp, 5, none⟩ = some (.slice (some ⟨gf, 0, none⟩) (4 * d.m) (4 * d.m)) := rg_cell e2
      have p6 : wr.cell? ⟨gp, 6, none⟩ = some (.int .i64 (d.m : Int)) := rg_cell e2
      have p7 : wr.cell? ⟨gp, 7, none⟩ = some (.slice (some ⟨gl, 0, none⟩) (4 * d.m) (4 * d.m)) := rg_cell e2
      have z0 : wr.cell? ⟨w.heap.size, 0, none⟩ = some (.bool false) := rg_cell e3
      have f0 : wr.frozen? ⟨w.heap.size, 0, none⟩ = false := rg_frozen e3
      have z1 : wr.cell? ⟨w.heap.size, 1, none⟩ = some (.bool false) := rg_cell e3
      have f1 : wr.frozen? ⟨w.heap.size, 1, none⟩ = false := rg_frozen e3
      have z2 : wr.cell? ⟨w.heap.size, 2, none⟩ = some (.bool false) := rg_cell e3
      have f2 : wr.frozen? ⟨w.heap.size, 2, none⟩ = false := rg_frozen e3
      have z3 : wr.cell? ⟨w.heap.size, 3, none⟩ = some (.bool false) := rg_cell e3
      have f3 : wr.frozen? ⟨w.heap.size, 3, none⟩ = false := rg_frozen e3
      have z4 : wr.cell? ⟨w.heap.size, 4, none⟩ = some (.int .i64 0) := rg_cell e3
      have f4 : wr.frozen? ⟨w.heap.size, 4, none⟩ = false := rg_frozen e3
      have z5 : wr.cell? ⟨w.heap.size, 5, none⟩ = some (.slice none 0 0) := rg_cell e3
      have f5 : wr.frozen? ⟨w.heap.size, 5, none⟩ = false := rg_frozen e3
      have z6 : wr.cell? ⟨w.heap.size, 6, none⟩ = some (.int .i64 0) := rg_cell e3
      have f6 : wr.frozen? ⟨w.heap.size, 6, none⟩ = false := rg_frozen e3
      have z7 : wr.cell? ⟨w.heap.size, 7, none⟩ = some (.slice none 0 0) := rg_cell e3
      have f7 : wr.frozen? ⟨w.heap.size, 7, none⟩ = false := rg_frozen e3
      clear e2 e3
      go_wp2_with fail
      refine bodyPost_ret (v := pcV d.m (empA ks) gf gl) ?_ rfl ⟨gf, gl, rfl, ?_⟩
      · simp [results, Tryz.results73, go_sem, pcV, z0, z1, z2, z3, z4, z5, z6, z7]
      · show Pc (put8 wr w.heap.size d.m (empA ks) gf gl) d.m w.heap.size gf gl _ _ ∧ Bl (put8 wr w.heap.size d.m (empA ks) gf gl) d (n + leavesN ks) _ _ ∧ Chg d.own w (put8 wr w.heap.size d.m (empA ks) gf gl)
        have ho : Onl w.heap.size wr (put8 wr w.heap.size d.m (empA ks) gf gl) := put8_onl
        refine ⟨HI.out.pc.onl ho HI.out.nf.2 HI.out.nl.2, HI.out.bl.kept (fun k hk hl => ho.block k hl (by
          have hzl := HBL.out.dz.lt
          rcases hk with rfl | rfl | rfl | rfl | rfl | rfl <;> omega)), HI.out.chg.trans (Chg.of_onl (C := fun k => k = w.heap.size) ho (fun _ => rfl)) (fun k hk h => by omega)⟩
end Go.Proofs.YtmlpkimbcjkbkaaGreatDoor
