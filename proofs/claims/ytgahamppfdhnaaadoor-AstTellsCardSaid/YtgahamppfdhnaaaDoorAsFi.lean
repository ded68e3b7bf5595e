/-
  CONTRACT of layer 12's First, at two Ops.
-/
import Derived.Test.YtgahamppfdhnaaaDoorAsAllD
import Derived.Test.YtgahamppfdhnaaaDoorAsCt
import Derived.Test.YtgahamppfdhnaaaDoorOrdI
namespace Go.Proofs.YtgahamppfdhnaaaDoor
open Go.RowKit Go.Shelf
attribute [local go_sem] Oper.semAt_some

theorem put4_row {w : World} {g : Nat} {a b c d : Value} {ty : TypeId} (h : w.heap[g]? = some (.cells #[a, b, c, d] ty (0, 0))) (n : Nd) : (put4 w g n).heap[g]? = some (.cells #[.string n.op, .string n.tx, .int .i64 n.pl, .slice n.kp n.kn n.kc] ty (0, 0)) := by
  have h1 := as_setCell_block (i := 0) h (.string n.op)
  have h2 := as_setCell_block (i := 1) h1 (.string n.tx)
  have h3 := as_setCell_block (i := 2) h2 (.int .i64 n.pl)
  have h4 := as_setCell_block (i := 3) h3 (.slice n.kp n.kn n.kc)
  unfold put4
  simpa using h4
def mt (s0 s1 : ByteArray) (u : T) : Bool := eqB u.op s0 || eqB u.op s1
def nd0 : Nd := ⟨⟨#[]⟩, ⟨#[]⟩, 0, none, 0, 0⟩
def FiPost (s0 s1 : ByteArray) (t : T) (w : World) (e : Ending) (w' : World) : Prop := ∃ n b, e = .returned (.tuple #[Nd.val n, .bool b]) ∧ Below w.heap.size w w' ∧
  ((b = true ∧ ∃ pre x post, flatTT 0 t = pre ++ x :: post ∧ (∀ y ∈ pre, mt s0 s1 y.2 = false) ∧ mt s0 s1 x.2 = true ∧ VT w' w.heap.size n x.2) ∨ (b = false ∧ n = nd0 ∧ ∀ y ∈ flatTT 0 t, mt s0 s1 y.2 = false))
theorem VT.put {W : World} {b k : Nat} {n : Nd} {t : T} (h : VT W b n t) (hk : ∀ cs e fz, W.heap[k]? ≠ some (.cells cs e fz)) (ob : Obj) : VT (W.putObj k ob) b n t := by
  obtain ⟨ks, h1, h2⟩ := h
  exact ⟨ks, ⟨h1.len, h1.kd, MemL.turn (fun _ _ _ h3 h4 => ⟨h3, h4.put hk ob⟩) ks h1.mem⟩, h2⟩
/-- What First reads and writes. -/
structure Fi (w : World) (g c : Nat) (s0 s1 : ByteArray) (r b : Array Value) (W : World) : Prop where
  bel : Below w.heap.size w W
  o : W.heap[w.heap.size + 1]? = some (.cells #[.slice (some ⟨g, 0, none⟩) 2 c] 66 (0, 0))
  g0 : W.cell? ⟨g, 0, none⟩ = some (.string s0)
  g1 : W.cell? ⟨g, 1, none⟩ = some (.string s1)
  r : W.heap[w.heap.size + 2]? = some (.cells r 25 (0, 0))
  b : W.heap[w.heap.size + 3]? = some (.cells b 4 (0, 0))
theorem Fi.kept {w W W' : World} {g c : Nat} {s0 s1 : ByteArray} {r b : Array Value} (h : Fi w g c s0 s1 r b W) (hb : Below w.heap.size w W') (hg : g < w.heap.size) (hk : ∀ k, k < w.heap.size + 4 → W'.heap[k]? = W.heap[k]?) : Fi w g c s0 s1 r b W' :=
  ⟨hb, (hk _ (by omega)).trans h.o, (World.cell?_of_block (a := ⟨g, 0, none⟩) (hk g (by omega))).trans h.g0, (World.cell?_of_block (a := ⟨g, 1, none⟩) (hk g (by omega))).trans h.g1, (hk _ (by omega)).trans h.r, (hk _ (by omega)).trans h.b⟩
theorem flatTT_split {a : AT} {p : List Fe} {x : Fe} (h : p ++ [x] <+: flat 0 a) : ∃ post, flatTT 0 (er a) = p.map keyF2 ++ keyF2 x :: post := by
  obtain ⟨r, hr⟩ := h
  refine ⟨r.map keyF2, ?_⟩
  rw [← flat_keys2, ← hr]
  simp
def FiI (w : World) (g c : Nat) (s0 s1 : ByteArray) (pre : List Fe) (W : World) : Prop := Fi w g c s0 s1 #[.string ⟨#[]⟩, .string ⟨#[]⟩, .int .i64 0, .slice none 0 0] #[.bool false] W ∧ ∀ x ∈ pre, mt s0 s1 (er x.a) = false
def FiX (w : World) (g c : Nat) (s0 s1 : ByteArray) (cd : Code) (pre : List Fe) (W : World) : Prop := cd = .ret ∧ ∃ (p : List Fe) (x : Fe) (n : Nd), pre = p ++ [x] ∧ (∀ y ∈ p, mt s0 s1 (er y.a) = false) ∧ mt s0 s1 (er x.a) = true ∧
  Fi w g c s0 s1 #[.string n.op, .string n.tx, .int .i64 n.pl, .slice n.kp n.kn n.kc] #[.bool true] W ∧ VT W w.heap.size n (er x.a)
set_option maxHeartbeats 16000000 in
set_option maxRecDepth 100000 in
theorem first_any (nd : Nd) (t : T) (b : Nat) (w : World) (g c : Nat) (s0 s1 : ByteArray) (h : VT w b nd t) (hz : t.size ≤ 1000) (hx : TxOk t) (h0 : w.cell? ⟨g, 0, none⟩ = some (.string s0)) (h1 : w.cell? ⟨g, 1, none⟩ = some (.string s1)) :
    Calls Tryd.prog 19 #[nd.val, .slice (some ⟨g, 0, none⟩) 2 c] w (FiPost s0 s1 t w) := by
  obtain ⟨ks, htv, rfl⟩ := h
  obtain ⟨op, tx, pl, kp, kn, kc⟩ := nd
  obtain rfl : kn = ks.length := htv.len
  have hgl : g < w.heap.size := World.block_lt_of_cell? _ _ h0
  have hz4 : ((((w.alloc (.cells #[.string op, .string tx, .int .i64 pl, .slice kp ks.length kc] 25)).alloc (.cells #[.slice (some ⟨g, 0, none⟩) 2 c] 66)).alloc (.cells #[.string ⟨#[]⟩, .string ⟨#[]⟩, .int .i64 0, .slice none 0 0] 25)).alloc (.cells #[.bool false] 4)).heap.size = w.heap.size + 4 := by simp
  have hb4 : Below w.heap.size w ((((w.alloc (.cells #[.string op, .string tx, .int .i64 pl, .slice kp ks.length kc] 25)).alloc (.cells #[.slice (some ⟨g, 0, none⟩) 2 c] 66)).alloc (.cells #[.string ⟨#[]⟩, .string ⟨#[]⟩, .int .i64 0, .slice none 0 0] 25)).alloc (.cells #[.bool false] 4)) := ((((Below.refl _ _).alloc (Nat.le_refl _) _).alloc (by simp) _).alloc (by simp; omega) _).alloc (by simp; omega) _
  have q1 : ((((w.alloc (.cells #[.string op, .string tx, .int .i64 pl, .slice kp ks.length kc] 25)).alloc (.cells #[.slice (some ⟨g, 0, none⟩) 2 c] 66)).alloc (.cells #[.string ⟨#[]⟩, .string ⟨#[]⟩, .int .i64 0, .slice none 0 0] 25)).alloc (.cells #[.bool false] 4)).heap[w.heap.size + 1]? = some (.cells #[.slice (some ⟨g, 0, none⟩) 2 c] 66 (0, 0)) := by
    have := as_heap_alloc (w.alloc (.cells #[.string op, .string tx, .int .i64 pl, .slice kp ks.length kc] 25)) (.cells #[.slice (some ⟨g, 0, none⟩) 2 c] 66)
    rw [World.size_alloc] at this
    exact (Below.heap_alloc _ _ _ (by simp)).trans ((Below.heap_alloc _ _ _ (by simp)).trans this)
  have q2 : ((((w.alloc (.cells #[.string op, .string tx, .int .i64 pl, .slice kp ks.length kc] 25)).alloc (.cells #[.slice (some ⟨g, 0, none⟩) 2 c] 66)).alloc (.cells #[.string ⟨#[]⟩, .string ⟨#[]⟩, .int .i64 0, .slice none 0 0] 25)).alloc (.cells #[.bool false] 4)).heap[w.heap.size + 2]? = some (.cells #[.string ⟨#[]⟩, .string ⟨#[]⟩, .int .i64 0, .slice none 0 0] 25 (0, 0)) := by
    have := as_heap_alloc ((w.alloc (.cells #[.string op, .string tx, .int .i64 pl, .slice kp ks.length kc] 25)).alloc (.cells #[.slice (some ⟨g, 0, none⟩) 2 c] 66)) (.cells #[.string ⟨#[]⟩, .string ⟨#[]⟩, .int .i64 0, .slice none 0 0] 25)
    rw [World.size_alloc, World.size_alloc] at this
    exact (Below.heap_alloc _ _ _ (by simp)).trans this
  have q3 : ((((w.alloc (.cells #[.string op, .string tx, .int .i64 pl, .slice kp ks.length kc] 25)).alloc (.cells #[.slice (some ⟨g, 0, none⟩) 2 c] 66)).alloc (.cells #[.string ⟨#[]⟩, .string ⟨#[]⟩, .int .i64 0, .slice none 0 0] 25)).alloc (.cells #[.bool false] 4)).heap[w.heap.size + 3]? = some (.cells #[.bool false] 4 (0, 0)) := by
    have := as_heap_alloc (((w.alloc (.cells #[.string op, .string tx, .int .i64 pl, .slice kp ks.length kc] 25)).alloc (.cells #[.slice (some ⟨g, 0, none⟩) 2 c] 66)).alloc (.cells #[.string ⟨#[]⟩, .string ⟨#[]⟩, .int .i64 0, .slice none 0 0] 25)) (.cells #[.bool false] 4)
    rw [World.size_alloc, World.size_alloc, World.size_alloc] at this
    exact this
  have hn4 : NodeAt ((((w.alloc (.cells #[.string op, .string tx, .int .i64 pl, .slice kp ks.length kc] 25)).alloc (.cells #[.slice (some ⟨g, 0, none⟩) 2 c] 66)).alloc (.cells #[.string ⟨#[]⟩, .string ⟨#[]⟩, .int .i64 0, .slice none 0 0] 25)).alloc (.cells #[.bool false] 4)) w.heap.size 0 ⟨op, tx, pl, kp, ks.length, kc⟩ := (((node_new w ⟨op, tx, pl, kp, ks.length, kc⟩).kept (Below.heap_alloc _ _ _ (by simp))).kept (Below.heap_alloc _ _ _ (by simp; omega))).kept (Below.heap_alloc _ _ _ (by simp; omega))
  have HFI : Hid (Fi w g c s0 s1 #[.string ⟨#[]⟩, .string ⟨#[]⟩, .int .i64 0, .slice none 0 0] #[.bool false] ((((w.alloc (.cells #[.string op, .string tx, .int .i64 pl, .slice kp ks.length kc] 25)).alloc (.cells #[.slice (some ⟨g, 0, none⟩) 2 c] 66)).alloc (.cells #[.string ⟨#[]⟩, .string ⟨#[]⟩, .int .i64 0, .slice none 0 0] 25)).alloc (.cells #[.bool false] 4))) := Lib.hid ⟨hb4, q1, (hb4.cell (p := ⟨g, 0, none⟩) hgl).trans h0, (hb4.cell (p := ⟨g, 1, none⟩) hgl).trans h1, q2, q3⟩
  obtain ⟨a, ha⟩ : ∃ a, a = Nd.at ⟨op, tx, pl, kp, ks.length, kc⟩ w.heap.size 0 ks := ⟨_, rfl⟩
  have hgo : a.g = w.heap.size ∧ a.o = 0 := by rw [ha]; exact ⟨rfl, rfl⟩
  have hera : er a = Nd.t ⟨op, tx, pl, kp, ks.length, kc⟩ ks := by rw [ha]; simp [Nd.at, er, Nd.t]
  have HMEM : Hid (Mem ((((w.alloc (.cells #[.string op, .string tx, .int .i64 pl, .slice kp ks.length kc] 25)).alloc (.cells #[.slice (some ⟨g, 0, none⟩) 2 c] 66)).alloc (.cells #[.string ⟨#[]⟩, .string ⟨#[]⟩, .int .i64 0, .slice none 0 0] 25)).alloc (.cells #[.bool false] 4)) (fun k => k ≤ w.heap.size) a) := Lib.hid (by
    rw [ha]
    exact TV.at (htv.kept (fun g _ hl => hb4.block g hl) (fun g _ hl => Nat.le_of_lt hl)) (Nat.le_refl _) hn4)
  rw [← hera] at hz hx ⊢
  have HS : Hid (∀ x ∈ flat 0 a, (er x.a).size ≤ 1000 ∧ TxOk (er x.a)) := Lib.hid fun x hx2 => flat_all (P := fun a => (er a).size ≤ 1000 ∧ TxOk (er a)) (fun a h k hk => ⟨by
    have := size_kid hk
    have h1 : (er a).size = 1 + sizeL (erL a.ks) := by cases a; rw [er, T.size]; rfl
    have := h.1
    omega, h.2.at.2.2 k hk⟩) 0 a ⟨hz, hx⟩ x hx2
  have HSM : Hid (∀ W', Mem W' (fun k => k ≤ w.heap.size) a → ∀ x ∈ flat 0 a, Mem W' (fun k => k ≤ w.heap.size) x.a) := Lib.hid fun W' hm x hx2 => flat_all (fun a h k hk => (Mem.iff.1 h).2.2.2.all k hk) 0 a hm x hx2
  have HGO := Lib.hid hgo
  have HSZ := Lib.hid hz
  clear htv h0 h1 hb4 q1 q2 q3 hn4 ha hgo hera hx hz
  simp only [Nd.val]
  refine (callsIn_wide (n := 6)).1 ?_
  refine callsIn_of_wp_marks Tryd.func19 rfl trivial ?_ rfl
  simp only [Tryd.ntmps19, List.size_toArray, List.length_cons, List.length_nil, Nat.reduceAdd, Nat.reduceSub, Array.replicate_succ, Array.replicate_zero, List.push_toArray, List.append_toArray, List.nil_append, List.cons_append]
  have t1 : Fence.wide.fn 28 := trivial
  have t2 : Fence.wide.fn 26 := trivial
  have t3 : Fence.wide.fn 29 := trivial
  gi_wp2_with fail
  generalize ((((w.alloc (.cells #[.string op, .string tx, .int .i64 pl, .slice kp ks.length kc] 25)).alloc (.cells #[.slice (some ⟨g, 0, none⟩) 2 c] 66)).alloc (.cells #[.string ⟨#[]⟩, .string ⟨#[]⟩, .int .i64 0, .slice none 0 0] 25)).alloc (.cells #[.bool false] 4)) = W4 at *
  simp only [Nat.add_assoc, Nat.reduceAdd]
  refine (callsIn_wide.2 (each_call w.heap.size 0 W4)).mono ?_
  rintro e w5 ⟨bs, rfl, hbs, hbk, hb5⟩
  have hz5 := hb5.size
  rw [hz4] at hbs hz5
  have HK5 : Hid (KpT (fun k => k ≤ w.heap.size) bs a w5) := Lib.hid ⟨by rw [HGO.out.1, HGO.out.2]; exact hbk, HMEM.out.next hb5⟩
  have HF5 : Hid (FiI w g c s0 s1 [] w5) := Lib.hid ⟨HFI.out.kept (HFI.out.bel.trans (hb5.mono HFI.out.bel.size)) hgl (fun k hk => hb5.block k (by omega)), fun x h => by cases h⟩
  have hbs5 : bs < w5.heap.size := as_lt hbk
  clear hbk hb5 HMEM HFI hz4
  dsimp only
  gi_wp2_with fail
  have hb6 : ∀ r, Below w5.heap.size w5 ((w5.alloc (.deferred (some []))).alloc (.loop r)) := fun r => ((Below.refl _ _).alloc (Nat.le_refl _) _).alloc (by simp) _
  refine wpIn_rangeQ (F := Fence.wide) rfl (by omega) (gf := 34) (lb := #[.pointer (some ⟨bs, 0, none⟩)]) rfl trivial (enters_of Tryd.func34 (by kernel_rfl) rfl)
    (each_seq (B := fun k => k ≤ w.heap.size) (a := a) (by have := HSZ.out; omega) bs _) (fun _ => rfl) (fun W r o h hl => KpT.put h hl o)
    (FiI w g c s0 s1) (FiX w g c s0 s1) ?hI ?hIx ?hK0 ?h0 ?a1 ?assign ?body ?done ?stop
  case hI =>
    rintro pre W r ob ⟨h2, h3⟩ hlr
    exact ⟨h2.kept (below_put h2.bel (by omega) ob) hgl (fun k hk => World.putObj_heap_other (by omega)), h3⟩
  case hIx =>
    rintro cd pre W r ob ⟨h1, p, x, n, h2, h3, h4, h5, h6⟩ hlr
    exact ⟨h1, p, x, n, h2, h3, h4, h5.kept (below_put h5.bel (by omega) ob) hgl (fun k hk => World.putObj_heap_other (by omega)), h6.put (fun cs e fz he => by rw [hlr] at he; cases he) ob⟩
  case hK0 =>
    intro r
    exact HK5.out.kept (fun k _ hl => (hb6 r).block k hl)
  case h0 =>
    intro r
    exact ⟨HF5.out.1.kept (HF5.out.1.bel.trans ((hb6 r).mono HF5.out.1.bel.size)) hgl (fun k hk => (hb6 r).block k (by omega)), HF5.out.2⟩
  case assign =>
    intro l' x W' K hK
    simp only [encF]
    gi_wp2
    exact hK
  case body =>
    rintro l' pre x W1 ⟨hfi, hall⟩ hkp ⟨r, hlr⟩ hD hlen hsp
    have hxm : x ∈ flat 0 a := hsp.subset (by simp)
    have hmx := HSM.out W1 hkp.2 x hxm
    obtain ⟨hs1, hs2⟩ := HS.out x hxm
    obtain ⟨_, hnx, _, _⟩ := Mem.iff.1 hmx
    have hdr : Below W1.heap.size W1 W1.drew := drew_below W1
    have hfd : Fi w g c s0 s1 #[.string ⟨#[]⟩, .string ⟨#[]⟩, .int .i64 0, .slice none 0 0] #[.bool false] W1.drew := hfi.kept (hfi.bel.trans (hdr.mono hfi.bel.size)) hgl (fun _ _ => rfl)
    have CC : Hid (Calls Tryd.prog 26 #[x.a.nd.val] W1.drew (GgPost (er x.a) W1.drew)) := Lib.hid (clone_any _ _ 0 _ ((VT.of_mem hmx).next hdr) hs1 hs2)
    have hopx : x.a.nd.op = (er x.a).op := by cases x.a; rw [er]; rfl
    have CT : Hid (Calls Tryd.prog 29 #[.slice (some ⟨g, 0, none⟩) 2 c, .string x.a.nd.op] W1.drew fun e w' => e = .returned (.bool (mt s0 s1 (er x.a))) ∧ w' = W1.drew) := Lib.hid (by
      unfold mt
      rw [← hopx]
      exact contains_two g c s0 s1 _ _ hfd.g0 hfd.g1)
    have hwW : w.heap.size + 4 ≤ W1.heap.size := by have := as_lt hfi.b; omega
    obtain ⟨e0, e1, e2, e3⟩ := hnx.kept (show W1.drew.heap[x.a.g]? = W1.heap[x.a.g]? from rfl)
    have HFD := Lib.hid hfd
    have HALL := Lib.hid hall
    have HKP := Lib.hid hkp
    have HD1 := Lib.hid (as_lt hD)
    have HD2 := Lib.hid (as_lt hlr)
    have oc : W1.drew.cell? ⟨w.heap.size + 1, 0, none⟩ = some (.slice (some ⟨g, 0, none⟩) 2 c) := as_cell hfd.o
    simp only [Nd.val] at CC
    have HXT : Hid (mt s0 s1 (er x.a) = true → ∀ (W3 : World) (n : Nd), Below w.heap.size w W3 → (∀ k, k < w.heap.size + 2 → W3.heap[k]? = W1.heap[k]?) → (∀ k, w.heap.size + 4 ≤ k → k < W1.heap.size → W3.heap[k]? = W1.heap[k]?) → W3.heap[w.heap.size + 2]? = some (.cells #[.string n.op, .string n.tx, .int .i64 n.pl, .slice n.kp n.kn n.kc] 25 (0, 0)) → W3.heap[w.heap.size + 3]? = some (.cells #[.bool true] 4 (0, 0)) → VT W3 w.heap.size n (er x.a) →
        Two w5.heap.size W1 W3 ∧ KpT (fun k => k ≤ w.heap.size) bs a W3 ∧ FiX w g c s0 s1 .ret (pre ++ [x]) W3) := Lib.hid (fun hm W3 n hb hk1 hk2 hr hbb hv =>
      ⟨⟨hk2 _ (by omega) HD1.out, hk2 _ (by omega) HD2.out⟩, hkp.kept (fun k hk hl => by
        rcases hk with rfl | hk
        · exact hk2 _ (by omega) hl
        · exact hk1 _ (by omega)), rfl, pre, x, n, rfl, hall, hm, ⟨hb, (hk1 _ (by omega)).trans hfi.o, (World.cell?_of_block (a := ⟨g, 0, none⟩) (hk1 g (by omega))).trans hfi.g0, (World.cell?_of_block (a := ⟨g, 1, none⟩) (hk1 g (by omega))).trans hfi.g1, hr, hbb⟩, hv⟩)
    have HXF : Hid (mt s0 s1 (er x.a) = false → Two w5.heap.size W1 W1.drew ∧ KpT (fun k => k ≤ w.heap.size) bs a W1.drew ∧ FiI w g c s0 s1 (pre ++ [x]) W1.drew) := Lib.hid (fun hm =>
      ⟨⟨rfl, rfl⟩, hkp.kept (fun _ _ _ => rfl), hfd, fun y hy => by
        rcases List.mem_append.1 hy with hy | hy
        · exact hall y hy
        · obtain rfl := List.mem_singleton.1 hy; exact hm⟩)
    clear hfi hall hkp hlr hD hlen hsp hxm hmx hs1 hs2 hnx hopx hfd HKP HALL
    generalize mt s0 s1 (er x.a) = mb at *
    generalize er x.a = tx0 at *
    generalize x.a.nd.op = n1 at *
    generalize x.a.nd.tx = n2 at *
    generalize x.a.nd.pl = n3 at *
    generalize x.a.nd.kp = n4 at *
    generalize x.a.nd.kn = n5 at *
    generalize x.a.nd.kc = n6 at *
    generalize x.a.g = xg at *
    generalize x.a.o = xo at *
    gi_wp2_with fail
    refine wpIn_region_I (S := fun w' => w' = W1.drew) (by kernel_rfl) rfl (fun hHeld => ?_)
    refine wpAnyI_take (i := 0) (oi := _) (v := ?_) (by kernel_rfl) rfl (by kernel_rfl) (by kernel_rfl) (by kernel_rfl) (fun _ _ _ h => h) (Or.inl ⟨by rfl, ?_⟩) (fun _ => rfl) (by assumption) ?_
    rotate_left
    · (intro w hSw; subst hSw; go_simp; try with_reducible rfl)
    try simp only [List.getElem_toArray, List.getElem_cons_zero, Act.put, List.setIfInBounds_toArray, List.set_cons_zero, List.set_cons_succ]
    refine wpAnyI_take (i := 1) (oi := _) (v := ?_) (by kernel_rfl) rfl (by kernel_rfl) (by kernel_rfl) (by kernel_rfl) (fun _ _ _ h => h) (Or.inl ⟨by rfl, ?_⟩) (fun _ => rfl) (by assumption) ?_
    rotate_left
    · (intro w hSw; subst hSw; go_simp; try with_reducible rfl)
    try simp only [List.getElem_toArray, List.getElem_cons_zero, List.getElem_cons_succ, Act.put, List.setIfInBounds_toArray, List.set_cons_zero, List.set_cons_succ]
    refine wpAnyI_take (i := 2) (oi := _) (v := ?_) (by kernel_rfl) rfl (by kernel_rfl) (by kernel_rfl) (by kernel_rfl) (fun _ _ _ h => h) (Or.inl ⟨by rfl, ?_⟩) (fun _ => rfl) (by assumption) ?_
    rotate_left
    · (intro w hSw; subst hSw; go_simp; try with_reducible rfl)
    try simp only [List.getElem_toArray, List.getElem_cons_zero, List.getElem_cons_succ, Act.put, List.setIfInBounds_toArray, List.set_cons_zero, List.set_cons_succ]
    refine wpAnyI_take (i := 3) (oi := _) (v := ?_) (by kernel_rfl) rfl (by kernel_rfl) (by kernel_rfl) (by kernel_rfl) (fun _ _ _ h => h) (Or.inl ⟨by rfl, ?_⟩) (fun _ => rfl) (by assumption) ?_
    rotate_left
    · (intro w hSw; subst hSw; go_simp; try with_reducible rfl)
    try simp only [List.getElem_toArray, List.getElem_cons_zero, List.getElem_cons_succ, Act.put, List.setIfInBounds_toArray, List.set_cons_zero, List.set_cons_succ]
    refine wpAnyI_take (i := 4) (oi := _) (v := ?_) (by kernel_rfl) rfl (by kernel_rfl) (by kernel_rfl) (by kernel_rfl) (fun _ _ _ h => h) (Or.inl ⟨by rfl, ?_⟩) (fun _ => rfl) (by assumption) ?_
    rotate_left
    · (intro w hSw; subst hSw; go_simp; try with_reducible rfl)
    try simp only [List.getElem_toArray, List.getElem_cons_zero, List.getElem_cons_succ, Act.put, List.setIfInBounds_toArray, List.set_cons_zero, List.set_cons_succ]
    refine wpAnyI_ready (rs := [5]) (by kernel_rfl) (by simp) ?_
    refine AllReadyI.cons (o := _) rfl (fun K hK => ?_) AllReadyI.nil
    go_simp
    refine (CallsIn.inRound l' (callsIn_wide.2 CT.out)).mono ?_
    rintro e w8 ⟨rfl, rfl⟩
    refine hK.out _ _ rfl (fun hHeld => ?_)
    clear hK K hHeld
    try simp only [List.getElem_toArray, List.getElem_cons_zero, List.getElem_cons_succ, Act.put, List.setIfInBounds_toArray, List.set_cons_zero, List.set_cons_succ]
    refine wpAnyI_done (by kernel_rfl) ?_ _
    cases mb with
    | false =>
      have HG := Lib.hid (HXF.out rfl)
      clear HXF HXT
      gi_wp2_with fail
      exact HG.out
    | true =>
      have HXU := Lib.hid (HXT.out rfl)
      clear HXF HXT
      gi_wp2_with fail
      refine (CallsIn.inRound l' (callsIn_wide.2 CC.out)).mono ?_
      rintro e w9 ⟨⟨m1, m2, m3, m4, m5, m6⟩, rfl, hv9, hb9⟩
      have hb9' : Below W1.heap.size W1 w9 := (drew_below W1).trans (hb9.mono (Nat.le_refl _))
      have r9 := (hb9.block (w.heap.size + 2) (as_lt HFD.out.r)).trans HFD.out.r
      have b9 := (hb9.block (w.heap.size + 3) (as_lt HFD.out.b)).trans HFD.out.b
      have k0 : w9.cell? ⟨w.heap.size + 2, 0, none⟩ = some (.string ⟨#[]⟩) := as_cell r9
      have k1 : w9.cell? ⟨w.heap.size + 2, 1, none⟩ = some (.string ⟨#[]⟩) := as_cell r9
      have k2 : w9.cell? ⟨w.heap.size + 2, 2, none⟩ = some (.int .i64 0) := as_cell r9
      have k3 : w9.cell? ⟨w.heap.size + 2, 3, none⟩ = some (.slice none 0 0) := as_cell r9
      have f0 : w9.frozen? ⟨w.heap.size + 2, 0, none⟩ = false := as_frozen r9
      have f1 : w9.frozen? ⟨w.heap.size + 2, 1, none⟩ = false := as_frozen r9
      have f2 : w9.frozen? ⟨w.heap.size + 2, 2, none⟩ = false := as_frozen r9
      have f3 : w9.frozen? ⟨w.heap.size + 2, 3, none⟩ = false := as_frozen r9
      have kb : w9.cell? ⟨w.heap.size + 3, 0, none⟩ = some (.bool false) := as_cell b9
      have fb : w9.frozen? ⟨w.heap.size + 3, 0, none⟩ = false := as_frozen b9
      have HEND := Lib.hid (HXU.out ((put4 w9 (w.heap.size + 2) ⟨m1, m2, m3, m4, m5, m6⟩).setCell ⟨w.heap.size + 3, 0, none⟩ (.bool true)) ⟨m1, m2, m3, m4, m5, m6⟩
        ((put4_below (HFD.out.bel.trans (hb9.mono HFD.out.bel.size)) (by omega) _).setCell (p := ⟨w.heap.size + 3, 0, none⟩) (by show w.heap.size ≤ w.heap.size + 3; omega) _)
        (fun k hk => (Below.heap_setCell _ ⟨w.heap.size + 3, 0, none⟩ _ k (by show k ≠ w.heap.size + 3; omega)).trans ((put4_block (by omega) _).trans (hb9'.block k (by omega))))
        (fun k hk hl => (Below.heap_setCell _ ⟨w.heap.size + 3, 0, none⟩ _ k (by show k ≠ w.heap.size + 3; omega)).trans ((put4_block (by omega) _).trans (hb9'.block k hl)))
        ((Below.heap_setCell _ ⟨w.heap.size + 3, 0, none⟩ _ _ (by show w.heap.size + 2 ≠ w.heap.size + 3; omega)).trans (put4_row r9 _))
        (by have h3 := as_setCell_block (i := 0) ((put4_block (show w.heap.size + 3 ≠ w.heap.size + 2 by omega) ⟨m1, m2, m3, m4, m5, m6⟩).trans b9) (.bool true); simpa using h3)
        ((hv9.keep (fun k hk hl => (Below.heap_setCell _ ⟨w.heap.size + 3, 0, none⟩ _ k (by have : W1.heap.size ≤ k := hk; show k ≠ w.heap.size + 3; omega)).trans (put4_block (by have : W1.heap.size ≤ k := hk; omega) _))).less (by show w.heap.size ≤ W1.heap.size; omega)))
      clear hv9 hb9 hb9' r9 b9 HXU CC CT HFD
      simp only [Nd.val]
      gi_wp2_with fail
      have := HEND.out
      unfold put4 at this
      exact this
  case done =>
    rintro D xs6 W6 rfl ⟨hfi, hall⟩ hkp rfl hD
    have HALL : Hid (∀ y ∈ flatTT 0 (er a), mt s0 s1 y.2 = false) := Lib.hid (fun y hy => by
      rw [← flat_keys2] at hy
      obtain ⟨x, hx, rfl⟩ := List.mem_map.1 hy
      exact hall x hx)
    have k0 : W6.cell? ⟨w.heap.size + 2, 0, none⟩ = some (.string ⟨#[]⟩) := as_cell hfi.r
    have k1 : W6.cell? ⟨w.heap.size + 2, 1, none⟩ = some (.string ⟨#[]⟩) := as_cell hfi.r
    have k2 : W6.cell? ⟨w.heap.size + 2, 2, none⟩ = some (.int .i64 0) := as_cell hfi.r
    have k3 : W6.cell? ⟨w.heap.size + 2, 3, none⟩ = some (.slice none 0 0) := as_cell hfi.r
    have f0 : W6.frozen? ⟨w.heap.size + 2, 0, none⟩ = false := as_frozen hfi.r
    have f1 : W6.frozen? ⟨w.heap.size + 2, 1, none⟩ = false := as_frozen hfi.r
    have f2 : W6.frozen? ⟨w.heap.size + 2, 2, none⟩ = false := as_frozen hfi.r
    have f3 : W6.frozen? ⟨w.heap.size + 2, 3, none⟩ = false := as_frozen hfi.r
    have kb : W6.cell? ⟨w.heap.size + 3, 0, none⟩ = some (.bool false) := as_cell hfi.b
    have fb : W6.frozen? ⟨w.heap.size + 3, 0, none⟩ = false := as_frozen hfi.b
    have r1 := put4_row hfi.r nd0
    have r2 : ((put4 W6 (w.heap.size + 2) nd0).setCell ⟨w.heap.size + 3, 0, none⟩ (.bool false)).heap[w.heap.size + 2]? = some (.cells #[.string ⟨#[]⟩, .string ⟨#[]⟩, .int .i64 0, .slice none 0 0] 25 (0, 0)) := (Below.heap_setCell _ ⟨w.heap.size + 3, 0, none⟩ _ _ (by show w.heap.size + 2 ≠ w.heap.size + 3; omega)).trans r1
    have r3 : ((put4 W6 (w.heap.size + 2) nd0).setCell ⟨w.heap.size + 3, 0, none⟩ (.bool false)).heap[w.heap.size + 3]? = some (.cells #[.bool false] 4 (0, 0)) := by
      have h3 := as_setCell_block (i := 0) ((put4_block (show w.heap.size + 3 ≠ w.heap.size + 2 by omega) nd0).trans hfi.b) (.bool false)
      simpa using h3
    have F1 : ((put4 W6 (w.heap.size + 2) nd0).setCell ⟨w.heap.size + 3, 0, none⟩ (.bool false)).heap[w5.heap.size]? = some (.deferred (some [])) := (Below.heap_setCell _ ⟨w.heap.size + 3, 0, none⟩ _ _ (by show w5.heap.size ≠ w.heap.size + 3; omega)).trans ((put4_block (by omega) _).trans hD)
    have HBZ := Lib.hid (below_put (((put4_below hfi.bel (by omega : w.heap.size ≤ w.heap.size + 2) nd0).setCell (p := ⟨w.heap.size + 3, 0, none⟩) (by show w.heap.size ≤ w.heap.size + 3; omega) (.bool false))) (show w.heap.size ≤ w5.heap.size by omega) (.deferred none))
    have c0 := as_cell (i := 0) ((World.putObj_heap_other (o := .deferred none) (show w.heap.size + 2 ≠ w5.heap.size by omega)).trans r2)
    have c1 := as_cell (i := 1) ((World.putObj_heap_other (o := .deferred none) (show w.heap.size + 2 ≠ w5.heap.size by omega)).trans r2)
    have c2 := as_cell (i := 2) ((World.putObj_heap_other (o := .deferred none) (show w.heap.size + 2 ≠ w5.heap.size by omega)).trans r2)
    have c3 := as_cell (i := 3) ((World.putObj_heap_other (o := .deferred none) (show w.heap.size + 2 ≠ w5.heap.size by omega)).trans r2)
    have c4 := as_cell (i := 0) ((World.putObj_heap_other (o := .deferred none) (show w.heap.size + 3 ≠ w5.heap.size by omega)).trans r3)
    have HC := Lib.hid (And.intro c0 (And.intro c1 (And.intro c2 (And.intro c3 c4))))
    have HF := Lib.hid F1
    clear hfi hall hkp hD r1 r2 r3 F1 c0 c1 c2 c3 c4
    gi_wp2_with fail
    refine ⟨by simp, .inl ⟨_, _, rfl, run_takeDeferred HF.out, ?_⟩⟩
    refine ⟨.tuple #[.agg #[.string ⟨#[]⟩, .string ⟨#[]⟩, .int .i64 0, .slice none 0 0], .bool false], ?_, ⟨nd0, false, rfl, HBZ.out, .inr ⟨rfl, rfl, HALL.out⟩⟩⟩
    obtain ⟨c0, c1, c2, c3, c4⟩ := HC.out
    simp only [put4, nd0] at c0 c1 c2 c3 c4
    simp [results, Tryd.results19, go_sem, c0, c1, c2, c3, c4]
  case stop =>
    rintro D cd pre W6 hpre ⟨rfl, p, x, n, rfl, hno, hyes, hfi, hv⟩ hkp rfl hD
    obtain ⟨post, hpost⟩ := flatTT_split hpre
    have hvz : VT (W6.putObj w5.heap.size (.deferred none)) w.heap.size n (er x.a) := hv.put (fun cs e fz he => by rw [hD] at he; cases he) _
    have HE : Hid (FiPost s0 s1 (er a) w (.returned (.tuple #[n.val, .bool true])) (W6.putObj w5.heap.size (.deferred none))) := Lib.hid
      ⟨n, true, rfl, below_put hfi.bel (by omega) _, .inl ⟨rfl, p.map keyF2, keyF2 x, post, hpost, fun y hy => by
        obtain ⟨z, hz, rfl⟩ := List.mem_map.1 hy
        exact hno z hz, hyes, hvz⟩⟩
    have HR := Lib.hid ((World.putObj_heap_other (o := .deferred none) (show w.heap.size + 2 ≠ w5.heap.size by omega)).trans hfi.r)
    have HB := Lib.hid ((World.putObj_heap_other (o := .deferred none) (show w.heap.size + 3 ≠ w5.heap.size by omega)).trans hfi.b)
    have HD := Lib.hid hD
    obtain ⟨m1, m2, m3, m4, m5, m6⟩ := n
    clear hno hyes hfi hv hkp hD hpost hvz hpre
    simp only at HR
    gi_wp2_with fail
    refine ⟨by simp, .inl ⟨_, _, rfl, run_takeDeferred HD.out, ?_⟩⟩
    refine ⟨_, ?_, HE.out⟩
    have c0 := as_cell (i := 0) HR.out
    have c1 := as_cell (i := 1) HR.out
    have c2 := as_cell (i := 2) HR.out
    have c3 := as_cell (i := 3) HR.out
    have c4 := as_cell (i := 0) HB.out
    simp [results, Tryd.results19, go_sem, c0, c1, c2, c3, c4, Nd.val]
end Go.Proofs.YtgahamppfdhnaaaDoor
