/-
 LAYER 13's reader in memory, and the CONTRACTS of its small functions: token, kind, fixed, comes; next, take, want, wantName, newlines, separators; fail, refuse, enter, leave.
-/
import Derived.Test.YtmbfdkiejneheaaGreatDoorPaN
import Derived.Test.YtmbfdkiejneheaaGreatDoorRgW1
import Derived.WalkMore
import Derived.ScopeJumps
import Derived.Deep.RegionHeld3
import Derived.Deep.LoopGhost
namespace Go.Proofs.YtmbfdkiejneheaaGreatDoor
open Go.RowKit

/-- Where a parse lies in memory: its reader's block, its tokens' block and capacity, the tokens. -/
structure Ps where
 b : Nat
 g : Nat
 c : Nat
 L : List Tok
/-- The reader, in its six cells. -/
def Rd (w : World) (K : Ps) (at' dp : Nat) (pr : Bool) (bad er : Nat) : Prop :=
 w.heap[K.b]? = some (.cells #[.slice (some ⟨K.g, 0, none⟩) K.L.length K.c, .int .i64 (at' : Int), .int .i64 (dp : Int), .bool pr, .int .i64 (bad : Int), .int .i64 (er : Int)] 42 (0, 0))
structure RdC (w : World) (K : Ps) (at' dp : Nat) (pr : Bool) (bad er : Nat) : Prop where
 c0 : w.cell? ⟨K.b, 0, none⟩ = some (.slice (some ⟨K.g, 0, none⟩) K.L.length K.c)
 c1 : w.cell? ⟨K.b, 1, none⟩ = some (.int .i64 (at' : Int))
 c2 : w.cell? ⟨K.b, 2, none⟩ = some (.int .i64 (dp : Int))
 c3 : w.cell? ⟨K.b, 3, none⟩ = some (.bool pr)
 c4 : w.cell? ⟨K.b, 4, none⟩ = some (.int .i64 (bad : Int))
 c5 : w.cell? ⟨K.b, 5, none⟩ = some (.int .i64 (er : Int))
 f1 : w.frozen? ⟨K.b, 1, none⟩ = false
 f2 : w.frozen? ⟨K.b, 2, none⟩ = false
 f3 : w.frozen? ⟨K.b, 3, none⟩ = false
 f4 : w.frozen? ⟨K.b, 4, none⟩ = false
 f5 : w.frozen? ⟨K.b, 5, none⟩ = false
section
variable {w w' : World} {K : Ps} {p dp bad er : Nat} {pr : Bool}
theorem Rd.cells (h : Rd w K p dp pr bad er) : RdC w K p dp pr bad er := ⟨rg_cell h, rg_cell h, rg_cell h, rg_cell h, rg_cell h, rg_cell h, rg_frozen h, rg_frozen h, rg_frozen h, rg_frozen h, rg_frozen h⟩
theorem Rd.lt (h : Rd w K p dp pr bad er) : K.b < w.heap.size := (Array.getElem?_eq_some_iff.1 h).1
theorem Rd.setP (h : Rd w K p dp pr bad er) (q : Nat) : Rd (w.setCell ⟨K.b, 1, none⟩ (.int .i64 (q : Int))) K q dp pr bad er := rg_setCell h _
theorem Rd.setD (h : Rd w K p dp pr bad er) (q : Nat) : Rd (w.setCell ⟨K.b, 2, none⟩ (.int .i64 (q : Int))) K p q pr bad er := rg_setCell h _
theorem Rd.setPr (h : Rd w K p dp pr bad er) (q : Bool) : Rd (w.setCell ⟨K.b, 3, none⟩ (.bool q)) K p dp q bad er := rg_setCell h _
theorem Rd.setB (h : Rd w K p dp pr bad er) (q : Nat) : Rd (w.setCell ⟨K.b, 4, none⟩ (.int .i64 (q : Int))) K p dp pr q er := rg_setCell h _
theorem Rd.setE (h : Rd w K p dp pr bad er) (q : Nat) : Rd (w.setCell ⟨K.b, 5, none⟩ (.int .i64 (q : Int))) K p dp pr bad q := rg_setCell h _
end
abbrev ErO := Option (Nat × Nat)
/-- Where a parse stands: what tokens are left, the levels, whether > prints, the first error. -/
structure Pst (w : World) (K : Ps) (l : List Tok) (dp : Nat) (pr : Bool) (er : ErO) : Prop where
 rd : Rd w K (K.L.length - l.length) dp pr (er.getD (0, 0)).1 (er.getD (0, 0)).2
 ts : TAt w K.g K.L
 tl : Tl K.L
 suf : l <:+ K.L
 ne : l ≠ []
 len : K.L.length ≤ 5000
 sep : K.g ≠ K.b
 dead : er ≠ none → l.length = 1
 code : ∀ e, er = some e → e.2 ≠ 0
 cap : K.L.length ≤ K.c
section
variable {w w' : World} {K : Ps} {l l2 : List Tok} {dp : Nat} {pr : Bool} {er : ErO}
theorem TAt.kept {w w' : World} {g : Nat} {l : List Tok} (h : TAt w g l) (hk : w'.heap[g]? = w.heap[g]?) : TAt w' g l := by
 have hc : ∀ o, w'.cell? ⟨g, o, none⟩ = w.cell? ⟨g, o, none⟩ := fun o => World.cell?_of_block (a := ⟨g, o, none⟩) hk
 have hl : g < w'.heap.size := by
  have hlt := h.lt
  have h1 : w.heap[g]? = some w.heap[g] := Array.getElem?_eq_getElem hlt
  rw [h1] at hk
  exact (Array.getElem?_eq_some_iff.1 hk).1
 exact ⟨hl, fun i hi => (hc _).trans (h.k i hi), fun i hi => (hc _).trans (h.t i hi), fun i hi => (hc _).trans (h.a i hi)⟩
/-- What lies in the reader's and the tokens' blocks stays. -/
theorem Pst.kept (h : Pst w K l dp pr er) (hk : ∀ k, k < w.heap.size → k = K.b ∨ k = K.g → w'.heap[k]? = w.heap[k]?) : Pst w' K l dp pr er :=
 ⟨(hk K.b h.rd.lt (.inl rfl)).trans h.rd, h.ts.kept (hk K.g h.ts.lt (.inr rfl)), h.tl, h.suf, h.ne, h.len, h.sep, h.dead, h.code, h.cap⟩
theorem Pst.below (h : Pst w K l dp pr er) (hb : Below w.heap.size w w') : Pst w' K l dp pr er := h.kept fun k hk _ => hb.block k hk
theorem Pst.alloc (h : Pst w K l dp pr er) (o : Obj) : Pst (w.alloc o) K l dp pr er := h.kept fun _ hk _ => Below.heap_alloc _ _ _ hk
theorem Pst.drew (h : Pst w K l dp pr er) : Pst w.drew K l dp pr er := h.kept fun _ _ _ => rfl
theorem Pst.drewN (h : Pst w K l dp pr er) (n : Nat) : Pst (w.drewN n) K l dp pr er := h.kept fun _ _ _ => rfl
theorem Pst.setNew (h : Pst w K l dp pr er) {a : Addr} (h1 : a.block ≠ K.b) (h2 : a.block ≠ K.g) (v : Value) : Pst (w.setCell a v) K l dp pr er :=
 h.kept fun k _ he => Below.heap_setCell w _ v k (by rcases he with rfl | rfl <;> exact Ne.symm ‹_›)
theorem Pst.tll (h : Pst w K l dp pr er) : Tl l := h.tl.suf h.suf h.ne
theorem Pst.lt (h : Pst w K l dp pr er) : K.b < w.heap.size := h.rd.lt
theorem Pst.glt (h : Pst w K l dp pr er) : K.g < w.heap.size := h.ts.lt
theorem Pst.pos (h : Pst w K l dp pr er) : 0 < l.length ∧ l.length ≤ K.L.length ∧ K.L.length ≤ 5000 := ⟨List.length_pos_iff.2 h.ne, h.suf.length_le, h.len⟩
theorem tk_at {l L : List Tok} (hs : l <:+ L) (hn : l ≠ []) : ∃ h : L.length - l.length < L.length, L[L.length - l.length] = tk l := by
 obtain ⟨p, rfl⟩ := hs
 obtain ⟨t, r, rfl⟩ := List.exists_cons_of_ne_nil hn
 have e : (p ++ t :: r).length - (t :: r).length = p.length := by simp
 refine ⟨by rw [e]; simp, ?_⟩
 simp only [e]
 simp [tk]
/-- The three cells of the token that comes. -/
theorem Pst.tok (h : Pst w K l dp pr er) {i : Nat} (hi : K.L.length - l.length = i) : i < K.L.length ∧ w.cell? ⟨K.g, i * 3, none⟩ = some (.int .i64 (tk l).k) ∧ w.cell? ⟨K.g, i * 3 + 1, none⟩ = some (.string ⟨(tk l).t.toArray⟩) ∧ w.cell? ⟨K.g, i * 3 + 2, none⟩ = some (.int .i64 (tk l).a) := by
 subst hi
 obtain ⟨h1, h2⟩ := tk_at h.suf h.ne
 exact ⟨h1, by rw [h.ts.k _ h1, h2], by rw [h.ts.t _ h1, h2], by rw [h.ts.a _ h1, h2]⟩
/-- On to fewer tokens. -/
theorem Pst.to (h : Pst w K l dp pr er) (hs : l2 <:+ l) (hn : l2 ≠ []) : Pst (w.setCell ⟨K.b, 1, none⟩ (.int .i64 ((K.L.length - l2.length : Nat) : Int))) K l2 dp pr er := by
 have hk := rg_setCell h.rd (i := 1) (.int .i64 ((K.L.length - l2.length : Nat) : Int))
 refine ⟨h.rd.setP _, h.ts.kept (Below.heap_setCell w _ _ _ h.sep), h.tl, hs.trans h.suf, hn, h.len, h.sep, fun he => ?_, h.code, h.cap⟩
 have h1 := hs.length_le
 have h2 := h.dead he
 have h3 := List.length_pos_iff.2 hn
 omega
theorem Pst.deep (h : Pst w K l dp pr er) (d : Nat) : Pst (w.setCell ⟨K.b, 2, none⟩ (.int .i64 (d : Int))) K l d pr er :=
 ⟨h.rd.setD d, h.ts.kept (Below.heap_setCell w _ _ _ h.sep), h.tl, h.suf, h.ne, h.len, h.sep, h.dead, h.code, h.cap⟩
theorem Pst.print (h : Pst w K l dp pr er) (q : Bool) : Pst (w.setCell ⟨K.b, 3, none⟩ (.bool q)) K l dp q er :=
 ⟨h.rd.setPr q, h.ts.kept (Below.heap_setCell w _ _ _ h.sep), h.tl, h.suf, h.ne, h.len, h.sep, h.dead, h.code, h.cap⟩
/-- What lies elsewhere stays, and the parse's tokens too. -/
theorem Pst.onl (h : Pst w K l dp pr er) (o : Onl K.b w w') {l2 : List Tok} {dp2 : Nat} {pr2 : Bool} {er2 : ErO} (hr : Rd w' K (K.L.length - l2.length) dp2 pr2 (er2.getD (0, 0)).1 (er2.getD (0, 0)).2) (hs : l2 <:+ l) (hn : l2 ≠ []) (hd : er2 ≠ none → l2.length = 1) (hc : ∀ e, er2 = some e → e.2 ≠ 0) : Pst w' K l2 dp2 pr2 er2 :=
 ⟨hr, h.ts.kept (o.block K.g h.ts.lt h.sep), h.tl, hs.trans h.suf, hn, h.len, h.sep, hd, hc, h.cap⟩
end
/-- Behind a call that moves the reader. -/
def Mv (K : Ps) (w : World) (l2 : List Tok) (dp : Nat) (pr : Bool) (er : ErO) (w' : World) : Prop := Pst w' K l2 dp pr er ∧ Onl K.b w w'
/-- A call that moves the reader and hands back v. -/
def MvC (f : FuncId) (xs : List Value) (K : Ps) (l : List Tok) (dp : Nat) (pr : Bool) (er : ErO) (v : Ending) (l2 : List Tok) (dp2 : Nat) (pr2 : Bool) (er2 : ErO) : Prop :=
 ∀ w, Pst w K l dp pr er → Calls Tryz.prog f (.pointer (some ⟨K.b, 0, none⟩) :: xs).toArray w fun e w' => e = v ∧ Mv K w l2 dp2 pr2 er2 w'
def tokV (t : Tok) : Value := .agg #[.int .i64 t.k, .string ⟨t.t.toArray⟩, .int .i64 t.a]
/-- A block that holds a token. -/
def BlkT (w : World) (g : Nat) (t : Tok) : Prop := w.heap[g]? = some (.cells #[.int .i64 t.k, .string ⟨t.t.toArray⟩, .int .i64 t.a] 60 (0, 0))
structure BlkTC (w : World) (g : Nat) (t : Tok) : Prop where
 c0 : w.cell? ⟨g, 0, none⟩ = some (.int .i64 t.k)
 c1 : w.cell? ⟨g, 1, none⟩ = some (.string ⟨t.t.toArray⟩)
 c2 : w.cell? ⟨g, 2, none⟩ = some (.int .i64 t.a)
 f0 : w.frozen? ⟨g, 0, none⟩ = false
 f1 : w.frozen? ⟨g, 1, none⟩ = false
 f2 : w.frozen? ⟨g, 2, none⟩ = false
section
variable {w w' : World} {g b : Nat} {a : Tok}
theorem BlkT.cells (h : BlkT w g a) : BlkTC w g a := ⟨rg_cell h, rg_cell h, rg_cell h, rg_frozen h, rg_frozen h, rg_frozen h⟩
theorem BlkT.lt (h : BlkT w g a) : g < w.heap.size := (Array.getElem?_eq_some_iff.1 h).1
theorem BlkT.drewN (h : BlkT w g a) (n : Nat) : BlkT (w.drewN n) g a := h
theorem BlkT.alloc (h : BlkT w g a) (o : Obj) : BlkT (w.alloc o) g a := (Below.heap_alloc w o g h.lt).trans h
theorem BlkT.setNew (h : BlkT w g a) {p : Addr} (hp : p.block ≠ g) (v : Value) : BlkT (w.setCell p v) g a := (Below.heap_setCell w p v g (Ne.symm hp)).trans h
theorem BlkT.onl (h : BlkT w g a) (hb : Onl b w w') (hg : g ≠ b) : BlkT w' g a := (hb.block g h.lt hg).trans h
theorem BlkT.drew (h : BlkT w g a) : BlkT w.drew g a := h
theorem BlkT.below (h : BlkT w g a) (hb : Below w.heap.size w w') : BlkT w' g a := (hb.block g h.lt).trans h
theorem BlkT.new (w : World) (t : Tok) : BlkT (w.alloc (.cells #[.int .i64 t.k, .string ⟨t.t.toArray⟩, .int .i64 t.a] 60)) w.heap.size t := heap_alloc_new w _
theorem BlkT.new0 (w : World) : BlkT (w.alloc (.cells #[.int .i64 0, .string ⟨#[]⟩, .int .i64 0] 60)) w.heap.size noT := heap_alloc_new w _
end
set_option maxHeartbeats 4000000 in
set_option maxRecDepth 100000 in
theorem ptok_any (K : Ps) (l : List Tok) (dp : Nat) (pr : Bool) (er : ErO) : MvC 38 [] K l dp pr er (.returned (tokV (tk l))) l dp pr er := by
 intro w h
 obtain ⟨i, hi⟩ : ∃ i, K.L.length - l.length = i := ⟨_, rfl⟩
 have hlen := h.len
 have HS := kH (h.alloc (.cells #[.int .i64 0, .string ⟨#[]⟩, .int .i64 0] 60))
 have HO := kH ((Onl.refl K.b w).alloc (.cells #[.int .i64 0, .string ⟨#[]⟩, .int .i64 0] 60))
 have HN := kH (BlkT.new0 w)
 have hblt := h.lt
 have hglt := h.glt
 have HBB : Hid (w.heap.size ≠ K.b ∧ w.heap.size ≠ K.g) := kH ⟨by omega, by omega⟩
 clear h
 go_enter Tryz.func38, Tryz.ntmps38
 go_wp2_with fail
 generalize w.alloc (.cells #[.int .i64 0, .string ⟨#[]⟩, .int .i64 0] 60) = w1 at *
 obtain ⟨h1, t0, t1, t2⟩ := HS.out.tok hi
 obtain ⟨c0, c1, c2, c3, c4, c5, f1, f2, f3, f4, f5⟩ := HS.out.rd.cells
 rw [hi] at c1
 have e1 : (0 : Int) ≤ (i : Int) := by omega
 have e2 : (i : Int) < (K.L.length : Int) := by omega
 obtain ⟨d0, d1, d2, k0, k1, k2⟩ := HN.out.cells
 go_region
 go_wp2_with fail
 exact bodyPost_ret (v := tokV (tk l)) (by simp [results, Tryz.results38, go_sem, tokV, d0, d1, d2]) rfl ⟨rfl, ((HS.out.setNew HBB.out.1 HBB.out.2 _).setNew HBB.out.1 HBB.out.2 _).setNew HBB.out.1 HBB.out.2 _ |>.drew, ((((HO.out.setNew (Nat.le_refl _) _).setNew (Nat.le_refl _) _).setNew (Nat.le_refl _) _)).drew⟩
theorem Tryz.fldK (k a : Int) (s : ByteArray) : ∀ w : World, (Instr.field 60 (.agg #[.int .i64 k, .string s, .int .i64 a]) 0).run Tryz.prog w = .ok (.int .i64 k) w := fun _ => by kernel_rfl
theorem Tryz.fldT (k a : Int) (s : ByteArray) : ∀ w : World, (Instr.field 60 (.agg #[.int .i64 k, .string s, .int .i64 a]) 1).run Tryz.prog w = .ok (.string s) w := fun _ => by kernel_rfl
theorem Tryz.fldA (k a : Int) (s : ByteArray) : ∀ w : World, (Instr.field 60 (.agg #[.int .i64 k, .string s, .int .i64 a]) 2).run Tryz.prog w = .ok (.int .i64 a) w := fun _ => by kernel_rfl
set_option maxHeartbeats 4000000 in
set_option maxRecDepth 100000 in
theorem pkind_any (K : Ps) (l : List Tok) (dp : Nat) (pr : Bool) (er : ErO) (k : Int) : MvC 22 [.int .i64 k] K l dp pr er (.returned (.bool (decide (((tk l).k : Int) = k)))) l dp pr er := by
 intro w h
 have C := kH (ptok_any K l dp pr er w h)
 have hf := Tryz.fldK (tk l).k (tk l).a ⟨(tk l).t.toArray⟩
 clear h
 go_enter Tryz.func22, Tryz.ntmps22
 go_wp2_with fail
 refine C.out.mono ?_
 rintro e w1 ⟨rfl, hm⟩
 unfold tokV
 have HM := kH hm
 clear hm
 go_wp2_with fail
 go_ret
 exact ⟨rfl, HM.out⟩
theorem Mv.st {K : Ps} {w w' : World} {l : List Tok} {dp : Nat} {pr : Bool} {er : ErO} (h : Mv K w l dp pr er w') : Pst w' K l dp pr er := h.1
theorem Mv.trans {K : Ps} {w w1 w2 : World} {l l2 : List Tok} {dp dp2 : Nat} {pr pr2 : Bool} {er er2 : ErO} (h : Mv K w l dp pr er w1) (k : Mv K w1 l2 dp2 pr2 er2 w2) : Mv K w l2 dp2 pr2 er2 w2 := ⟨k.1, h.2.trans k.2⟩
theorem Mv.refl {K : Ps} {w : World} {l : List Tok} {dp : Nat} {pr : Bool} {er : ErO} (h : Pst w K l dp pr er) : Mv K w l dp pr er w := ⟨h, Onl.refl _ _⟩
set_option maxHeartbeats 4000000 in
set_option maxRecDepth 100000 in
theorem pfix_any (K : Ps) (l : List Tok) (dp : Nat) (pr : Bool) (er : ErO) : MvC 51 [] K l dp pr er (.returned (.string ⟨(fx l).toArray⟩)) l dp pr er := by
 intro w h
 have C0 := kH (ptok_any K l dp pr er)
 have C8 := kH (pkind_any K l dp pr er 8)
 have C7 := kH (pkind_any K l dp pr er 7)
 have hf := Tryz.fldT (tk l).k (tk l).a ⟨(tk l).t.toArray⟩
 have H0 := kH (Mv.refl h)
 clear h
 unfold fx
 by_cases h8 : (tk l).k = 8
 ·
  rw [if_pos (Or.inl h8)]
  rw [show decide (((tk l).k : Int) = 8) = true from by simp [h8]] at C8
  clear h8
  go_enter Tryz.func51, Tryz.ntmps51
  go_wp2_with fail
  refine (C8.out _ H0.out.st).mono ?_
  rintro e w1 ⟨rfl, m1⟩
  have H1 := kH (H0.out.trans m1)
  clear m1
  go_wp2_with fail
  refine (C0.out _ H1.out.st).mono ?_
  rintro e w2 ⟨rfl, m2⟩
  have H2 := kH (H1.out.trans m2)
  clear m2
  unfold tokV
  go_wp2_with fail
  go_ret
  exact ⟨rfl, H2.out⟩
 ·
  rw [show decide (((tk l).k : Int) = 8) = false from by simp; omega] at C8
  by_cases h7 : (tk l).k = 7
  ·
   rw [if_pos (Or.inr h7)]
   rw [show decide (((tk l).k : Int) = 7) = true from by simp [h7]] at C7
   clear h7 h8
   go_enter Tryz.func51, Tryz.ntmps51
   go_wp2_with fail
   refine (C8.out _ H0.out.st).mono ?_
   rintro e w1 ⟨rfl, m1⟩
   have H1 := kH (H0.out.trans m1)
   clear m1
   go_wp2_with fail
   refine (C7.out _ H1.out.st).mono ?_
   rintro e w2 ⟨rfl, m2⟩
   have H2 := kH (H1.out.trans m2)
   clear m2
   go_wp2_with fail
   refine (C0.out _ H2.out.st).mono ?_
   rintro e w3 ⟨rfl, m3⟩
   have H3 := kH (H2.out.trans m3)
   clear m3
   unfold tokV
   go_wp2_with fail
   go_ret
   exact ⟨rfl, H3.out⟩
  ·
   rw [if_neg (by omega)]
   rw [show decide (((tk l).k : Int) = 7) = false from by simp; omega] at C7
   clear h7 h8
   go_enter Tryz.func51, Tryz.ntmps51
   go_wp2_with fail
   refine (C8.out _ H0.out.st).mono ?_
   rintro e w1 ⟨rfl, m1⟩
   have H1 := kH (H0.out.trans m1)
   clear m1
   go_wp2_with fail
   refine (C7.out _ H1.out.st).mono ?_
   rintro e w2 ⟨rfl, m2⟩
   have H2 := kH (H1.out.trans m2)
   clear m2
   go_wp2_with fail
   go_ret
   exact ⟨rfl, H2.out⟩
set_option maxHeartbeats 4000000 in
set_option maxRecDepth 100000 in
theorem pcomes_any (K : Ps) (l : List Tok) (dp : Nat) (pr : Bool) (er : ErO) (s : List UInt8) : MvC 36 [.string ⟨s.toArray⟩] K l dp pr er (.returned (.bool (decide (fx l = s)))) l dp pr er := by
 intro w h
 have C := kH (pfix_any K l dp pr er)
 have H0 := kH (Mv.refl h)
 clear h
 go_enter Tryz.func36, Tryz.ntmps36
 go_wp2_with fail
 refine (C.out _ H0.out.st).mono ?_
 rintro e w1 ⟨rfl, m1⟩
 have H1 := kH (H0.out.trans m1)
 clear m1
 go_wp2_with fail
 go_ret
 refine ⟨?_, H1.out⟩
 rw [show (fx l == s) = decide (fx l = s) from by by_cases h : fx l = s <;> simp [h]]
 rfl
def put3 (w : World) (g : Nat) (t : Tok) : World := ((w.setCell ⟨g, 0, none⟩ (.int .i64 t.k)).setCell ⟨g, 1, none⟩ (.string ⟨t.t.toArray⟩)).setCell ⟨g, 2, none⟩ (.int .i64 t.a)
theorem Mv.put3 {K : Ps} {w w' : World} {l : List Tok} {dp : Nat} {pr : Bool} {er : ErO} {g : Nat} (h : Mv K w l dp pr er w') (hg : w.heap.size ≤ g) (h1 : g ≠ K.b) (h2 : g ≠ K.g) (t : Tok) : Mv K w l dp pr er (put3 w' g t) :=
 ⟨((h.1.setNew h1 h2 _).setNew h1 h2 _).setNew h1 h2 _, ((h.2.setNew hg _).setNew hg _).setNew hg _⟩
theorem Mv.alloc {K : Ps} {w w' : World} {l : List Tok} {dp : Nat} {pr : Bool} {er : ErO} (h : Mv K w l dp pr er w') (o : Obj) : Mv K w l dp pr er (w'.alloc o) := ⟨h.1.alloc o, h.2.alloc o⟩
theorem Mv.drew {K : Ps} {w w' : World} {l : List Tok} {dp : Nat} {pr : Bool} {er : ErO} (h : Mv K w l dp pr er w') : Mv K w l dp pr er w'.drew := ⟨h.1.drew, h.2.drew⟩
theorem Mv.to {K : Ps} {w w' : World} {l l2 : List Tok} {dp : Nat} {pr : Bool} {er : ErO} (h : Mv K w l dp pr er w') (hs : l2 <:+ l) (hn : l2 ≠ []) : Mv K w l2 dp pr er (w'.setCell ⟨K.b, 1, none⟩ (.int .i64 ((K.L.length - l2.length : Nat) : Int))) := ⟨h.1.to hs hn, h.2.setCell 1 _⟩
set_option maxHeartbeats 4000000 in
set_option maxRecDepth 100000 in
theorem pnext_any (K : Ps) (l : List Tok) (dp : Nat) (pr : Bool) (er : ErO) : MvC 37 [] K l dp pr er (.returned (tokV (tk l))) (nx l) dp pr er := by
 intro w h
 have C := kH (ptok_any K l dp pr er)
 have HN := kH (BlkT.new0 w)
 have H0 : Hid (Mv K w l dp pr er (w.alloc (.cells #[.int .i64 0, .string ⟨#[]⟩, .int .i64 0] 60))) := kH ⟨h.alloc _, (Onl.refl K.b w).alloc _⟩
 have hblt := h.lt
 have hglt := h.glt
 have HBB : Hid (w.heap.size ≠ K.b ∧ w.heap.size ≠ K.g) := kH ⟨by omega, by omega⟩
 have HTL := kH h.tll.nx
 have HPS := kH h.pos
 clear h hblt hglt
 by_cases hk : (tk l).k = 0
 ·
  rw [show nx l = l from by unfold nx; rw [if_pos hk]]
  have hk2 : ((((tk l).k : Nat) : Int) != 0) = false := by simp [hk]
  clear hk
  go_enter Tryz.func37, Tryz.ntmps37
  go_wp2_with fail
  generalize w.alloc (.cells #[.int .i64 0, .string ⟨#[]⟩, .int .i64 0] 60) = w1 at *
  refine (C.out _ H0.out.st).mono ?_
  rintro e w2 ⟨rfl, m2⟩
  have HN2 := kH (HN.out.onl m2.2 HBB.out.1)
  have H2 := kH (H0.out.trans m2)
  clear m2
  unfold tokV
  have hlt := HN2.out.lt
  obtain ⟨d0, d1, d2, k0, k1, k2⟩ := HN2.out.cells
  go_wp2_with fail
  exact bodyPost_ret (v := tokV (tk l)) (by simp [results, Tryz.results37, go_sem, tokV, d0, d1, d2, hlt]) rfl ⟨rfl, (H2.out.put3 (Nat.le_refl _) HBB.out.1 HBB.out.2 (tk l)).alloc _⟩
 ·
  have hk2 : ((((tk l).k : Nat) : Int) != 0) = true := by simp [hk]
  have HK := kH hk
  clear hk
  go_enter Tryz.func37, Tryz.ntmps37
  go_wp2_with fail
  generalize w.alloc (.cells #[.int .i64 0, .string ⟨#[]⟩, .int .i64 0] 60) = w1 at *
  refine (C.out _ H0.out.st).mono ?_
  rintro e w2 ⟨rfl, m2⟩
  have HN2 := kH (HN.out.onl m2.2 HBB.out.1)
  have H2 := kH (H0.out.trans m2)
  clear m2
  unfold tokV
  have hlt := HN2.out.lt
  have hblt := H2.out.st.lt
  obtain ⟨d0, d1, d2, k0, k1, k2⟩ := HN2.out.cells
  obtain ⟨c0, c1, c2, c3, c4, c5, f1, f2, f3, f4, f5⟩ := H2.out.st.rd.cells
  have HE : Hid (((K.L.length - (nx l).length : Nat) : Int) = ((K.L.length - l.length : Nat) : Int) + 1) := kH (by
   obtain ⟨t, r, rfl, h1⟩ := H2.out.st.tll.cons
   have h2 := HPS.out
   have h3 : (tk (t :: r)).k = t.k := rfl
   rcases h1 with h1 | h1
   ·
    exact absurd h1.1 HK.out
   ·
    have : (nx (t :: r)) = r := by simp [nx, tk, h1.1]
    rw [this]
    simp only [List.length_cons] at h2 ⊢
    omega)
  generalize hi : K.L.length - l.length = i at *
  have hi2 : (i : Int) ≤ 5000 := by have := HPS.out; omega
  obtain ⟨hb1, hb2⟩ := HBB.out
  have hb3 := Ne.symm hb1
  go_wp2_with fail
  exact bodyPost_ret (v := tokV (tk l)) (by simp [results, Tryz.results37, go_sem, tokV, d0, d1, d2, hlt]) rfl ⟨rfl, by
   have := ((H2.out.to HTL.out.1 HTL.out.2.1).put3 (Nat.le_refl _) hb1 hb2 (tk l)).alloc (.cells #[.int .i64 (tk l).k, .string ⟨(tk l).t.toArray⟩, .int .i64 (tk l).a] 60)
   rw [HE.out] at this
   exact this⟩
set_option maxHeartbeats 4000000 in
set_option maxRecDepth 100000 in
theorem ptake_any (K : Ps) (l : List Tok) (dp : Nat) (pr : Bool) (er : ErO) (s : List UInt8) : MvC 39 [.string ⟨s.toArray⟩] K l dp pr er (.returned (.bool (decide (fx l = s)))) (if fx l = s then nx l else l) dp pr er := by
 intro w h
 have C := kH (pcomes_any K l dp pr er s)
 have CN := kH (pnext_any K l dp pr er)
 have H0 := kH (Mv.refl h)
 clear h
 by_cases hs : fx l = s
 ·
  rw [if_pos hs, decide_eq_true hs]
  rw [decide_eq_true hs] at C
  clear hs
  go_enter Tryz.func39, Tryz.ntmps39
  go_wp2_with fail
  refine (C.out _ H0.out.st).mono ?_
  rintro e w1 ⟨rfl, m1⟩
  have H1 := kH (H0.out.trans m1)
  clear m1
  go_wp2_with fail
  refine (CN.out _ H1.out.st).mono ?_
  rintro e w2 ⟨rfl, m2⟩
  have H2 := kH (H1.out.trans m2)
  clear m2
  unfold tokV
  go_wp2_with fail
  go_ret
  exact ⟨rfl, H2.out⟩
 ·
  rw [if_neg hs, decide_eq_false hs]
  rw [decide_eq_false hs] at C
  clear hs
  go_enter Tryz.func39, Tryz.ntmps39
  go_wp2_with fail
  refine (C.out _ H0.out.st).mono ?_
  rintro e w1 ⟨rfl, m1⟩
  have H1 := kH (H0.out.trans m1)
  clear m1
  go_wp2_with fail
  go_ret
  exact ⟨rfl, H1.out⟩
/-- The end alone. -/
def lst (l : List Tok) : List Tok := l.drop (l.length - 1)
theorem lst_suf (l : List Tok) : lst l <:+ l := List.drop_suffix _ _
theorem lst_len {l : List Tok} (h : l ≠ []) : (lst l).length = 1 := by
 have := List.length_pos_iff.2 h
 unfold lst; rw [List.length_drop]; omega
theorem lst_ne {l : List Tok} (h : l ≠ []) : lst l ≠ [] := fun e => by have := lst_len h; rw [e] at this; cases this
theorem Pst.err {w : World} {K : Ps} {l : List Tok} {dp : Nat} {pr : Bool} (h : Pst w K l dp pr none) (e : Nat × Nat) (he : e.2 ≠ 0) :
  Pst (((w.setCell ⟨K.b, 4, none⟩ (.int .i64 (e.1 : Int))).setCell ⟨K.b, 5, none⟩ (.int .i64 (e.2 : Int))).setCell ⟨K.b, 1, none⟩ (.int .i64 ((K.L.length - (lst l).length : Nat) : Int))) K (lst l) dp pr (some e) := by
 refine ⟨((h.rd.setB e.1).setE e.2).setP _, ?_, h.tl, (lst_suf l).trans h.suf, lst_ne h.ne, h.len, h.sep, fun _ => lst_len h.ne, fun e2 h2 => (by cases h2; exact he), h.cap⟩
 exact h.ts.kept (by rw [Below.heap_setCell _ _ _ _ h.sep, Below.heap_setCell _ _ _ _ h.sep, Below.heap_setCell _ _ _ _ h.sep])
set_option maxHeartbeats 4000000 in
set_option maxRecDepth 100000 in
theorem pfail_any (K : Ps) (l : List Tok) (dp : Nat) (pr : Bool) (er : ErO) (e : Nat × Nat) (he : e.2 ≠ 0) : MvC 72 [.int .i64 (e.1 : Int), .int .i64 (e.2 : Int)] K l dp pr er (.returned (.tuple #[])) (lst l) dp pr (some (er.getD e)) := by
 intro w h
 have HS := kH h
 have hlen := h.len
 have hpos := h.pos
 have HL : Hid (((K.L.length - (lst l).length : Nat) : Int) = (K.L.length : Int) - 1) := kH (by rw [lst_len h.ne]; omega)
 obtain ⟨c0, c1, c2, c3, c4, c5, f1, f2, f3, f4, f5⟩ := h.rd.cells
 have hcode := h.code
 clear h
 cases er with
 | none =>
  simp only [Option.getD_none] at c4 c5 ⊢
  go_enter Tryz.func72, Tryz.ntmps72
  go_wp2_with fail
  go_end0
  refine ⟨rfl, ?_⟩
  rw [← HL.out]
  exact ⟨HS.out.err e he, (((Onl.refl K.b w).setCell 4 _).setCell 5 _).setCell 1 _⟩
 | some e0 =>
  simp only [Option.getD_some] at c4 c5 ⊢
  have h0 := hcode e0 rfl
  have hz : ((e0.2 : Int) == 0) = false := by rw [Bool.eq_false_iff]; simp; omega
  go_enter Tryz.func72, Tryz.ntmps72
  go_wp2_with fail
  go_end0
  refine ⟨rfl, ?_⟩
  rw [← HL.out]
  exact ⟨HS.out.to (lst_suf l) (lst_ne HS.out.ne), (Onl.refl K.b w).setCell 1 _⟩
/-- What is left behind an error that was met here. -/
theorem Res.fail {α : Type} {X : TR α} {l : List Tok} {er : ErO} (a : α) {e : Nat × Nat} (hl : l ≠ []) (hX : X = .error e) : Res X l er a (lst l) (some (er.getD e)) :=
 ⟨lst_suf l, lst_ne hl, .inr ⟨e, hX, rfl, lst_len hl⟩⟩
set_option maxHeartbeats 4000000 in
set_option maxRecDepth 100000 in
theorem prefuse_any (K : Ps) (l : List Tok) (dp : Nat) (pr : Bool) (er : ErO) : MvC 54 [] K l dp pr er (.returned (.tuple #[])) (lst l) dp pr (some (er.getD (refE l))) := by
 intro w h
 have C := kH (ptok_any K l dp pr er)
 have CB := kH (pcomes_any K l dp pr er [124])
 have CF9 := kH (pfail_any K l dp pr er ((tk l).a, 9) (by simp))
 have CF10 := kH (pfail_any K l dp pr er ((tk l).a, 10) (by simp))
 have H0 := kH (Mv.refl h)
 clear h
 unfold refE
 by_cases hk : (tk l).k = 10
 ·
  rw [if_pos (.inl hk)]
  have hk2 : ((((tk l).k : Nat) : Int) == 10) = true := by simp [hk]
  clear hk
  go_enter Tryz.func54, Tryz.ntmps54
  go_wp2_with fail
  refine (C.out _ H0.out.st).mono ?_
  rintro e w1 ⟨rfl, m1⟩
  have H1 := kH (H0.out.trans (m1.alloc (.cells #[.int .i64 (tk l).k, .string ⟨(tk l).t.toArray⟩, .int .i64 (tk l).a] 60)))
  have HT : Hid (BlkT (w1.alloc (.cells #[.int .i64 (tk l).k, .string ⟨(tk l).t.toArray⟩, .int .i64 (tk l).a] 60)) w1.heap.size (tk l)) := kH (BlkT.new w1 (tk l))
  have HB1 : Hid (w1.heap.size ≠ K.b) := kH (by have := m1.1.lt; omega)
  clear m1
  unfold tokV
  go_wp2_with fail
  refine (CF10.out _ H1.out.st).mono ?_
  rintro e w9 ⟨rfl, m9⟩
  have H9 := kH (H1.out.trans m9)
  clear m9
  go_wp2_with fail
  exact bodyPost_ret (v := .tuple #[]) (by simp [results, Tryz.results54, go_sem]) rfl ⟨rfl, H9.out⟩
 ·
  have hk2 : ((((tk l).k : Nat) : Int) == 10) = false := by rw [Bool.eq_false_iff]; simp; omega
  by_cases hb : fx l = [124]
  ·
   rw [if_pos (.inr hb)]
   rw [decide_eq_true hb] at CB
   clear hk hb
   go_enter Tryz.func54, Tryz.ntmps54
   go_wp2_with fail
   refine (C.out _ H0.out.st).mono ?_
   rintro e w1 ⟨rfl, m1⟩
   have H1 := kH (H0.out.trans (m1.alloc (.cells #[.int .i64 (tk l).k, .string ⟨(tk l).t.toArray⟩, .int .i64 (tk l).a] 60)))
   have HT : Hid (BlkT (w1.alloc (.cells #[.int .i64 (tk l).k, .string ⟨(tk l).t.toArray⟩, .int .i64 (tk l).a] 60)) w1.heap.size (tk l)) := kH (BlkT.new w1 (tk l))
   have HB1 : Hid (w1.heap.size ≠ K.b) := kH (by have := m1.1.lt; omega)
   clear m1
   unfold tokV
   go_wp2_with fail
   refine (CB.out _ H1.out.st).mono ?_
   rintro e w2 ⟨rfl, m2⟩
   have H2 := kH (H1.out.trans m2)
   have HT2 := kH (HT.out.onl m2.2 HB1.out)
   clear m2
   obtain ⟨d0, d1, d2, k0, k1, k2⟩ := HT2.out.cells
   go_wp2_with fail
   refine (CF10.out _ H2.out.st).mono ?_
   rintro e w9 ⟨rfl, m9⟩
   have H9 := kH (H2.out.trans m9)
   clear m9
   go_wp2_with fail
   exact bodyPost_ret (v := .tuple #[]) (by simp [results, Tryz.results54, go_sem]) rfl ⟨rfl, H9.out⟩
  ·
   rw [if_neg (by rintro (h | h) <;> contradiction)]
   rw [decide_eq_false hb] at CB
   clear hk hb
   go_enter Tryz.func54, Tryz.ntmps54
   go_wp2_with fail
   refine (C.out _ H0.out.st).mono ?_
   rintro e w1 ⟨rfl, m1⟩
   have H1 := kH (H0.out.trans (m1.alloc (.cells #[.int .i64 (tk l).k, .string ⟨(tk l).t.toArray⟩, .int .i64 (tk l).a] 60)))
   have HT : Hid (BlkT (w1.alloc (.cells #[.int .i64 (tk l).k, .string ⟨(tk l).t.toArray⟩, .int .i64 (tk l).a] 60)) w1.heap.size (tk l)) := kH (BlkT.new w1 (tk l))
   have HB1 : Hid (w1.heap.size ≠ K.b) := kH (by have := m1.1.lt; omega)
   clear m1
   unfold tokV
   go_wp2_with fail
   refine (CB.out _ H1.out.st).mono ?_
   rintro e w2 ⟨rfl, m2⟩
   have H2 := kH (H1.out.trans m2)
   have HT2 := kH (HT.out.onl m2.2 HB1.out)
   clear m2
   obtain ⟨d0, d1, d2, k0, k1, k2⟩ := HT2.out.cells
   go_wp2_with fail
   refine (CF9.out _ H2.out.st).mono ?_
   rintro e w9 ⟨rfl, m9⟩
   have H9 := kH (H2.out.trans m9)
   clear m9
   go_wp2_with fail
   go_end0
   exact ⟨rfl, H9.out⟩
set_option maxHeartbeats 4000000 in
set_option maxRecDepth 100000 in
theorem pwant_any (K : Ps) (l : List Tok) (dp : Nat) (pr : Bool) (er : ErO) (s : List UInt8) (w : World) (h : Pst w K l dp pr er) :
  Calls Tryz.prog 52 #[.pointer (some ⟨K.b, 0, none⟩), .string ⟨s.toArray⟩] w fun e w' => ∃ l2 er2, e = .returned (.tuple #[]) ∧ Res (wantP s l) l er () l2 er2 ∧ Mv K w l2 dp pr er2 w' := by
 have C := kH (ptake_any K l dp pr er s)
 have CR := kH (prefuse_any K l dp pr er)
 have H0 := kH (Mv.refl h)
 have HTL := kH h.tll.nx
 have HNE := kH h.ne
 clear h
 unfold wantP
 by_cases hs : fx l = s
 ·
  rw [if_pos hs]
  rw [if_pos hs, decide_eq_true hs] at C
  clear hs
  go_enter Tryz.func52, Tryz.ntmps52
  go_wp2_with fail
  refine (C.out _ H0.out.st).mono ?_
  rintro e w1 ⟨rfl, m1⟩
  have H1 := kH (H0.out.trans m1)
  clear m1
  go_wp2_with fail
  go_end0
  exact ⟨_, _, rfl, Res.ret' HTL.out.1 HTL.out.2.1, H1.out⟩
 ·
  rw [if_neg hs]
  rw [if_neg hs, decide_eq_false hs] at C
  clear hs
  go_enter Tryz.func52, Tryz.ntmps52
  go_wp2_with fail
  refine (C.out _ H0.out.st).mono ?_
  rintro e w1 ⟨rfl, m1⟩
  have H1 := kH (H0.out.trans m1)
  clear m1
  go_wp2_with fail
  refine (CR.out _ H1.out.st).mono ?_
  rintro e w2 ⟨rfl, m2⟩
  have H2 := kH (H1.out.trans m2)
  clear m2
  go_wp2_with fail
  go_end0
  exact ⟨_, _, rfl, Res.fail () HNE.out rfl, H2.out⟩
/-- A Name, which has to come. -/
def nameP (l : List Tok) : TR Tok := if (tk l).k = 5 then .ok (tk l, nx l) else .error (refE l)
set_option maxHeartbeats 4000000 in
set_option maxRecDepth 100000 in
theorem pwname_any (K : Ps) (l : List Tok) (dp : Nat) (pr : Bool) (er : ErO) (w : World) (h : Pst w K l dp pr er) :
  Calls Tryz.prog 84 #[.pointer (some ⟨K.b, 0, none⟩)] w fun e w' => ∃ t l2 er2, e = .returned (tokV t) ∧ Res (nameP l) l er t l2 er2 ∧ Mv K w l2 dp pr er2 w' := by
 have C := kH (pkind_any K l dp pr er 5)
 have CR := kH (prefuse_any K l dp pr er)
 have CN := kH (pnext_any K l dp pr er)
 have CN2 := kH (pnext_any K (lst l) dp pr (some (er.getD (refE l))))
 have HN := kH (BlkT.new0 w)
 have H0 : Hid (Mv K w l dp pr er (w.alloc (.cells #[.int .i64 0, .string ⟨#[]⟩, .int .i64 0] 60))) := kH ⟨h.alloc _, (Onl.refl K.b w).alloc _⟩
 have hblt := h.lt
 have hglt := h.glt
 have HBB : Hid (w.heap.size ≠ K.b ∧ w.heap.size ≠ K.g) := kH ⟨by omega, by omega⟩
 have HTL := kH h.tll.nx
 have HNE := kH h.ne
 have HTE := kH (h.tll.suf (lst_suf l) (lst_ne h.ne)).nx
 clear h hblt hglt
 unfold nameP
 by_cases hk : (tk l).k = 5
 ·
  rw [if_pos hk]
  rw [decide_eq_true (show ((tk l).k : Int) = 5 from by omega)] at C
  clear hk
  go_enter Tryz.func84, Tryz.ntmps84
  go_wp2_with fail
  generalize w.alloc (.cells #[.int .i64 0, .string ⟨#[]⟩, .int .i64 0] 60) = w1 at *
  refine (C.out _ H0.out.st).mono ?_
  rintro e w2 ⟨rfl, m2⟩
  have HN2 := kH (HN.out.onl m2.2 HBB.out.1)
  have H2 := kH (H0.out.trans m2)
  clear m2
  go_wp2_with fail
  refine (CN.out _ H2.out.st).mono ?_
  rintro e w3 ⟨rfl, m3⟩
  have HN3 := kH (HN2.out.onl m3.2 HBB.out.1)
  have H3 := kH (H2.out.trans m3)
  clear m3
  unfold tokV
  obtain ⟨d0, d1, d2, k0, k1, k2⟩ := HN3.out.cells
  go_wp2_with fail
  exact bodyPost_ret (v := tokV (tk l)) (by simp [results, Tryz.results84, go_sem, tokV, d0, d1, d2]) rfl ⟨tk l, nx l, er, rfl, Res.ret' HTL.out.1 HTL.out.2.1, H3.out.put3 (Nat.le_refl _) HBB.out.1 HBB.out.2 (tk l)⟩
 ·
  rw [if_neg hk]
  rw [decide_eq_false (show ¬ ((tk l).k : Int) = 5 from by omega)] at C
  clear hk
  go_enter Tryz.func84, Tryz.ntmps84
  go_wp2_with fail
  generalize w.alloc (.cells #[.int .i64 0, .string ⟨#[]⟩, .int .i64 0] 60) = w1 at *
  refine (C.out _ H0.out.st).mono ?_
  rintro e w2 ⟨rfl, m2⟩
  have HN2 := kH (HN.out.onl m2.2 HBB.out.1)
  have H2 := kH (H0.out.trans m2)
  clear m2
  go_wp2_with fail
  refine (CR.out _ H2.out.st).mono ?_
  rintro e w3 ⟨rfl, m3⟩
  have HN3 := kH (HN2.out.onl m3.2 HBB.out.1)
  have H3 := kH (H2.out.trans m3)
  clear m3
  go_wp2_with fail
  refine (CN2.out _ H3.out.st).mono ?_
  rintro e w4 ⟨rfl, m4⟩
  have HN4 := kH (HN3.out.onl m4.2 HBB.out.1)
  have H4 := kH (H3.out.trans m4)
  clear m4
  unfold tokV
  obtain ⟨d0, d1, d2, k0, k1, k2⟩ := HN4.out.cells
  go_wp2_with fail
  exact bodyPost_ret (v := tokV (tk (lst l))) (by simp [results, Tryz.results84, go_sem, tokV, d0, d1, d2]) rfl ⟨tk (lst l), nx (lst l), _, rfl, (by
   refine ⟨HTE.out.1.trans (lst_suf l), HTE.out.2.1, .inr ⟨refE l, rfl, rfl, ?_⟩⟩
   have h1 := HTE.out.1.length_le
   have h2 := lst_len HNE.out
   have h3 := List.length_pos_iff.2 HTE.out.2.1
   omega), H4.out.put3 (Nat.le_refl _) HBB.out.1 HBB.out.2 (tk (lst l))⟩
theorem nls_nx {l : List Tok} (hl : Tl l) (h : (tk l).k = 1) : nlsP (nx l) = nlsP l := by
 obtain ⟨t, r, rfl, h1⟩ := hl.cons
 have h0 : t.k = 1 := h
 have : nx (t :: r) = r := by simp [nx, tk, h0]
 rw [this]
 unfold nlsP
 rw [List.dropWhile_cons, if_pos (by simp [h0])]
theorem nls_stop {l : List Tok} (hl : Tl l) (h : ¬ (tk l).k = 1) : nlsP l = l := by
 obtain ⟨t, r, rfl, h1⟩ := hl.cons
 have h0 : ¬ t.k = 1 := h
 unfold nlsP
 rw [List.dropWhile_cons, if_neg (by simp [h0])]
set_option maxHeartbeats 4000000 in
set_option maxRecDepth 100000 in
theorem pnls_any (K : Ps) (l : List Tok) (dp : Nat) (pr : Bool) (er : ErO) : MvC 57 [] K l dp pr er (.returned (.tuple #[])) (nlsP l) dp pr er := by
 intro w h
 have C := kH fun l => pkind_any K l dp pr er 1
 have CN := kH fun l => pnext_any K l dp pr er
 have H0 := kH (Mv.refl h)
 clear h
 go_enter Tryz.func57, Tryz.ntmps57
 go_wp2_with fail
 go_loopg [] l.length (fun gk wr => ∃ l2, l2.length ≤ gk ∧ nlsP l2 = nlsP l ∧ Hid (Mv K w l2 dp pr er wr))
 case atStart => exact ⟨l, Nat.le_refl _, rfl, H0⟩
 case round =>
  clear H0
  obtain ⟨l2, hl2, hn2, HS⟩ := hrel
  have C := kH (C.out l2)
  have CN := kH (CN.out l2)
  by_cases hk : (tk l2).k = 1
  ·
   rw [decide_eq_true (show ((tk l2).k : Int) = 1 from by omega)] at C
   have HX : Hid (nlsP (nx l2) = nlsP l ∧ (nx l2).length ≤ gk - 1 ∧ gk - 1 < gk) := kH (by
    have h1 := HS.out.st.tll.nx.2.2.2 (by omega)
    exact ⟨(nls_nx HS.out.st.tll hk).trans hn2, by omega, by omega⟩)
   clear hk hl2 hn2
   go_wp2_with fail
   refine (C.out _ HS.out.st).mono ?_
   rintro e w1 ⟨rfl, m1⟩
   have H1 := kH (HS.out.trans m1)
   clear m1
   go_wp2_with fail
   refine (CN.out _ H1.out.st).mono ?_
   rintro e w2 ⟨rfl, m2⟩
   have H2 := kH (H1.out.trans m2)
   clear m2
   unfold tokV
   go_wp2_with fail
   go_roundg (gk - 1)
   case measure => exact HX.out.2.2
   case rel => exact ⟨nx l2, HX.out.2.1, HX.out.1, H2⟩
  ·
   rw [decide_eq_false (show ¬ ((tk l2).k : Int) = 1 from by omega)] at C
   have HX : Hid (l2 = nlsP l) := kH (by rw [← hn2, nls_stop HS.out.st.tll hk])
   clear hk hl2 hn2
   go_wp2_with fail
   refine (C.out _ HS.out.st).mono ?_
   rintro e w1 ⟨rfl, m1⟩
   have H1 := kH (HS.out.trans m1)
   clear m1
   go_wp2_with fail
   go_end0
   rw [← HX.out]
   exact ⟨rfl, H1.out⟩
theorem sepB_iff (l : List Tok) : sepB (tk l) = true ↔ ((tk l).k = 1 ∨ fx l = [59]) := by
 unfold sepB fx
 by_cases h : (tk l).k = 8 ∨ (tk l).k = 7
 ·
  simp [h]
 ·
  simp [h]
theorem seps_nx {l : List Tok} (hl : Tl l) (h : (tk l).k = 1 ∨ fx l = [59]) : sepsP (nx l) = sepsP l := by
 have h2 := (sepB_iff l).2 h
 have h3 : (tk l).k ≠ 0 := by
  rcases h with h | h
  ·
   omega
  ·
   exact fx_kind h (by simp)
 obtain ⟨t, r, rfl, h1⟩ := hl.cons
 have : nx (t :: r) = r := by
  have h0 : t.k ≠ 0 := h3
  simp [nx, tk, h0]
 rw [this]
 unfold sepsP
 rw [List.dropWhile_cons, if_pos (show sepB t = true from h2)]
theorem seps_stop {l : List Tok} (hl : Tl l) (h : ¬ (tk l).k = 1) (h2 : ¬ fx l = [59]) : sepsP l = l := by
 have h3 : ¬ sepB (tk l) = true := fun e => by
  rcases (sepB_iff l).1 e with h4 | h4 <;> contradiction
 obtain ⟨t, r, rfl, h1⟩ := hl.cons
 unfold sepsP
 rw [List.dropWhile_cons, if_neg (show ¬ sepB t = true from h3)]
set_option maxHeartbeats 4000000 in
set_option maxRecDepth 100000 in
theorem pseps_any (K : Ps) (l : List Tok) (dp : Nat) (pr : Bool) (er : ErO) : MvC 21 [] K l dp pr er (.returned (.tuple #[])) (sepsP l) dp pr er := by
 intro w h
 have C := kH fun l => pkind_any K l dp pr er 1
 have CS := kH fun l => pcomes_any K l dp pr er [59]
 have CN := kH fun l => pnext_any K l dp pr er
 have H0 := kH (Mv.refl h)
 clear h
 go_enter Tryz.func21, Tryz.ntmps21
 go_wp2_with fail
 go_loopg [] l.length (fun gk wr => ∃ l2, l2.length ≤ gk ∧ sepsP l2 = sepsP l ∧ Hid (Mv K w l2 dp pr er wr))
 case atStart => exact ⟨l, Nat.le_refl _, rfl, H0⟩
 case round =>
  clear H0
  obtain ⟨l2, hl2, hn2, HS⟩ := hrel
  have C := kH (C.out l2)
  have CS := kH (CS.out l2)
  have CN := kH (CN.out l2)
  by_cases hk : (tk l2).k = 1
  ·
   rw [decide_eq_true (show ((tk l2).k : Int) = 1 from by omega)] at C
   have HX : Hid (sepsP (nx l2) = sepsP l ∧ (nx l2).length ≤ gk - 1 ∧ gk - 1 < gk) := kH (by
    have h1 := HS.out.st.tll.nx.2.2.2 (by omega)
    exact ⟨(seps_nx HS.out.st.tll (.inl hk)).trans hn2, by omega, by omega⟩)
   clear hk hl2 hn2
   go_wp2_with fail
   refine (C.out _ HS.out.st).mono ?_
   rintro e w1 ⟨rfl, m1⟩
   have H1 := kH (HS.out.trans m1)
   clear m1
   go_wp2_with fail
   refine (CN.out _ H1.out.st).mono ?_
   rintro e w2 ⟨rfl, m2⟩
   have H2 := kH (H1.out.trans m2)
   clear m2
   unfold tokV
   go_wp2_with fail
   go_roundg (gk - 1)
   case measure => exact HX.out.2.2
   case rel => exact ⟨nx l2, HX.out.2.1, HX.out.1, H2⟩
  ·
   rw [decide_eq_false (show ¬ ((tk l2).k : Int) = 1 from by omega)] at C
   by_cases hc : fx l2 = [59]
   ·
    rw [decide_eq_true hc] at CS
    have HX : Hid (sepsP (nx l2) = sepsP l ∧ (nx l2).length ≤ gk - 1 ∧ gk - 1 < gk) := kH (by
     have h1 := HS.out.st.tll.nx.2.2.2 (fx_kind hc (by simp))
     exact ⟨(seps_nx HS.out.st.tll (.inr hc)).trans hn2, by omega, by omega⟩)
    clear hk hl2 hn2 hc
    go_wp2_with fail
    refine (C.out _ HS.out.st).mono ?_
    rintro e w1 ⟨rfl, m1⟩
    have H1 := kH (HS.out.trans m1)
    clear m1
    go_wp2_with fail
    refine (CS.out _ H1.out.st).mono ?_
    rintro e w2 ⟨rfl, m2⟩
    have H2 := kH (H1.out.trans m2)
    clear m2
    go_wp2_with fail
    refine (CN.out _ H2.out.st).mono ?_
    rintro e w3 ⟨rfl, m3⟩
    have H3 := kH (H2.out.trans m3)
    clear m3
    unfold tokV
    go_wp2_with fail
    go_roundg (gk - 1)
    case measure => exact HX.out.2.2
    case rel => exact ⟨nx l2, HX.out.2.1, HX.out.1, H3⟩
   ·
    rw [decide_eq_false hc] at CS
    have HX : Hid (l2 = sepsP l) := kH (by rw [← hn2, seps_stop HS.out.st.tll hk hc])
    clear hk hl2 hn2 hc
    go_wp2_with fail
    refine (C.out _ HS.out.st).mono ?_
    rintro e w1 ⟨rfl, m1⟩
    have H1 := kH (HS.out.trans m1)
    clear m1
    go_wp2_with fail
    refine (CS.out _ H1.out.st).mono ?_
    rintro e w2 ⟨rfl, m2⟩
    have H2 := kH (H1.out.trans m2)
    clear m2
    go_wp2_with fail
    go_end0
    rw [← HX.out]
    exact ⟨rfl, H2.out⟩
theorem Mv.deep {K : Ps} {w w' : World} {l : List Tok} {dp : Nat} {pr : Bool} {er : ErO} (h : Mv K w l dp pr er w') (d : Nat) : Mv K w l d pr er (w'.setCell ⟨K.b, 2, none⟩ (.int .i64 (d : Int))) := ⟨h.1.deep d, h.2.setCell 2 _⟩
theorem Mv.print {K : Ps} {w w' : World} {l : List Tok} {dp : Nat} {pr : Bool} {er : ErO} (h : Mv K w l dp pr er w') (q : Bool) : Mv K w l dp q er (w'.setCell ⟨K.b, 3, none⟩ (.bool q)) := ⟨h.1.print q, h.2.setCell 3 _⟩
set_option maxHeartbeats 4000000 in
set_option maxRecDepth 100000 in
theorem penter_any (K : Ps) (l : List Tok) (dp : Nat) (pr : Bool) (er : ErO) (hd : dp < 50) : MvC 64 [] K l dp pr er (.returned (.tuple #[])) l (dp + 1) pr er := by
 intro w h
 have H1 := kH ((Mv.refl h).deep (dp + 1))
 obtain ⟨c0, c1, c2, c3, c4, c5, f1, f2, f3, f4, f5⟩ := h.rd.cells
 clear h
 have e1 : ¬ (50 : Int) < (dp : Int) + 1 := by omega
 have e2 : (dp : Int) ≤ 100 := by omega
 rw [show ((dp + 1 : Nat) : Int) = (dp : Int) + 1 from rfl] at H1
 go_enter Tryz.func64, Tryz.ntmps64
 go_wp2_with fail
 go_end0
 exact ⟨rfl, H1.out⟩
set_option maxHeartbeats 4000000 in
set_option maxRecDepth 100000 in
theorem penter_deep (K : Ps) (l : List Tok) (pr : Bool) (er : ErO) : MvC 64 [] K l 50 pr er (.returned (.tuple #[])) (lst l) 51 pr (some (er.getD (deepE l))) := by
 intro w h
 have H1 := kH ((Mv.refl h).deep 51)
 have C := kH (ptok_any K l 51 pr er)
 have CF := kH (pfail_any K l 51 pr er ((tk l).a, 14) (by simp))
 have hf := Tryz.fldA (tk l).k (tk l).a ⟨(tk l).t.toArray⟩
 obtain ⟨c0, c1, c2, c3, c4, c5, f1, f2, f3, f4, f5⟩ := h.rd.cells
 clear h
 unfold deepE
 go_enter Tryz.func64, Tryz.ntmps64
 go_wp2_with fail
 refine (C.out _ H1.out.st).mono ?_
 rintro e w2 ⟨rfl, m2⟩
 have H2 := kH (H1.out.trans m2)
 clear m2
 unfold tokV
 go_wp2_with fail
 refine (CF.out _ H2.out.st).mono ?_
 rintro e w3 ⟨rfl, m3⟩
 have H3 := kH (H2.out.trans m3)
 clear m3
 go_wp2_with fail
 go_end0
 exact ⟨rfl, H3.out⟩
set_option maxHeartbeats 4000000 in
set_option maxRecDepth 100000 in
theorem penter_deep2 (K : Ps) (l : List Tok) (pr : Bool) (er : ErO) : MvC 64 [] K l 51 pr er (.returned (.tuple #[])) (lst l) 52 pr (some (er.getD (deepE l))) := by
 intro w h
 have H1 := kH ((Mv.refl h).deep 52)
 have C := kH (ptok_any K l 52 pr er)
 have CF := kH (pfail_any K l 52 pr er ((tk l).a, 14) (by simp))
 have hf := Tryz.fldA (tk l).k (tk l).a ⟨(tk l).t.toArray⟩
 obtain ⟨c0, c1, c2, c3, c4, c5, f1, f2, f3, f4, f5⟩ := h.rd.cells
 clear h
 unfold deepE
 go_enter Tryz.func64, Tryz.ntmps64
 go_wp2_with fail
 refine (C.out _ H1.out.st).mono ?_
 rintro e w2 ⟨rfl, m2⟩
 have H2 := kH (H1.out.trans m2)
 clear m2
 unfold tokV
 go_wp2_with fail
 refine (CF.out _ H2.out.st).mono ?_
 rintro e w3 ⟨rfl, m3⟩
 have H3 := kH (H2.out.trans m3)
 clear m3
 go_wp2_with fail
 go_end0
 exact ⟨rfl, H3.out⟩
set_option maxHeartbeats 4000000 in
set_option maxRecDepth 100000 in
theorem pleave_any (K : Ps) (l : List Tok) (dp : Nat) (pr : Bool) (er : ErO) (hd : dp ≤ 50) : MvC 65 [] K l (dp + 1) pr er (.returned (.tuple #[])) l dp pr er := by
 intro w h
 have H1 := kH ((Mv.refl h).deep dp)
 obtain ⟨c0, c1, c2, c3, c4, c5, f1, f2, f3, f4, f5⟩ := h.rd.cells
 clear h
 have e2 : (dp : Int) ≤ 50 := by omega
 have e3 : (0 : Int) ≤ (dp : Int) := by omega
 rw [show ((dp + 1 : Nat) : Int) = (dp : Int) + 1 from rfl] at c2
 have e4 : (dp : Int) + 1 - 1 = (dp : Int) := by omega
 go_enter Tryz.func65, Tryz.ntmps65
 go_wp2_with fail
 go_end0
 exact ⟨rfl, H1.out⟩
end Go.Proofs.YtmbfdkiejneheaaGreatDoor
