/-
  HOW AstOther LAYS ITS ROWS: a row of parts of its own; a tree's kids with one more.
-/
import Derived.Test.YtgahamppfdhnaaaDoorAsOtM
import Derived.Deep.AppendSrc
namespace Go.Proofs.YtgahamppfdhnaaaDoor
open Go.RowKit

theorem as_append_run {P : Program} (w : World) {ops : Array Oper} {rest : List Oper} {o : Oper} {a : Act} {Q : Exit → Act → World → Prop} (hgd : o.guard = none) (sl x : Operand) (t u : TypeId)
    (ho : o.op = .call { callee := .builtin .append, args := #[sl, x], argTypes := #[t, u] }) (v s : Value) (hs : a.eval sl = v) (hx : a.eval x = s) (v' : Value) (w' : World)
    (hr : (Builtin.append_ #[t, u] o.type #[v, s]).run P w = .ok v' w') (h : ∀ v2 w2, Hid (v2 = v') → Hid (w2 = w') → wpList P ops Q rest (a.put o.dst v2) w2) : wpList P ops Q (o :: rest) a w := by
  refine wpList_plain hgd fun K hK => ?_
  unfold Oper.wp execOp
  simp only [ho, resolve, invoke, builtin, Sem.run_bind, Sem.run_pure, Result.andThen_ok, List.map_toArray, List.map_cons, List.map_nil, hs, hx, hr]
  exact hK _ _ (h _ _ (Lib.hid rfl) (Lib.hid rfl))
theorem cell_addP (w : World) (a : Addr) (n : Nat) (hn : n ≠ 0) : w.cell? (a.add n) = w.cell? ⟨a.block, a.off + n, none⟩ := by
  unfold Addr.add
  rw [if_neg hn]
def Pa.vals (a : Pa) : List Value := [.string a.op, .string a.tx, .int .i64 a.pl, .int .i64 a.up]
def paRow : List Pa → List Value
  | [] => []
  | t :: l => t.vals ++ paRow l
theorem paRow_len : ∀ l : List Pa, (paRow l).length = l.length * 4
  | [] => rfl
  | t :: l => by show (t.vals ++ paRow l).length = _; rw [List.length_append, paRow_len l]; simp [Pa.vals]; omega
theorem paRow_get : ∀ (l : List Pa) (i j : Nat) (h : i < l.length), j < 4 → (paRow l)[i * 4 + j]? = l[i].vals[j]?
  | t :: l, 0, j, _, hj => by
    show (t.vals ++ paRow l)[0 * 4 + j]? = t.vals[j]?
    rw [List.getElem?_append_left (by show 0 * 4 + j < 4; omega), show 0 * 4 + j = j from by omega]
  | t :: l, i + 1, j, h, hj => by
    show (t.vals ++ paRow l)[(i + 1) * 4 + j]? = (l[i]'(by simpa using h)).vals[j]?
    rw [List.getElem?_append_right (by show 4 ≤ (i + 1) * 4 + j; omega), show (i + 1) * 4 + j - t.vals.length = i * 4 + j from by show (i + 1) * 4 + j - 4 = _; omega]
    exact paRow_get l i j (by simpa using h) hj
theorem paRow_one : ∀ (l : List Pa), ∀ u ∈ paRow l, u.oneCell' = true
  | [], u, h => by cases h
  | t :: l, u, h => by
    rcases List.mem_append.1 h with h | h
    · simp [Pa.vals] at h
      rcases h with rfl | rfl | rfl | rfl <;> rfl
    · exact paRow_one l u h
theorem paRow_cells {w : World} {a : Addr} {l : List Pa} (h : PaAt w (some a) l) : ∀ (j : Nat) (u : Value), (paRow l)[j]? = some u → w.cell? (a.add j) = some u := by
  intro j u hj
  have hlt : j < (paRow l).length := (List.getElem?_eq_some_iff.1 hj).1
  rw [paRow_len] at hlt
  obtain ⟨i, r, hr, rfl⟩ : ∃ i r, r < 4 ∧ j = i * 4 + r := ⟨j / 4, j % 4, Nat.mod_lt _ (by omega), by omega⟩
  have hi : i < l.length := by omega
  rw [paRow_get l i r hi hr] at hj
  obtain ⟨b, hb, h2, h3, h4, h5, h6⟩ := h i hi
  injection hb with hb
  subst hb
  match r, hr with
  | 0, _ => simp [Pa.vals] at hj; subst hj; rw [Nat.add_zero]; exact h3
  | 1, _ => simp [Pa.vals] at hj; subst hj; rw [← Addr.add_add, cell_addP _ _ _ (by decide)]; exact h4
  | 2, _ => simp [Pa.vals] at hj; subst hj; rw [← Addr.add_add, cell_addP _ _ _ (by decide)]; exact h5
  | 3, _ => simp [Pa.vals] at hj; subst hj; rw [← Addr.add_add, cell_addP _ _ _ (by decide)]; exact h6
theorem PaAt.ofRow {w : World} {base g n c : Nat} {l : List Pa} (h : w.ownsRow base 53 4 (.slice (some ⟨g, 0, none⟩) n c) n (paRow l)) (hn : n = l.length) : PaAt w (some ⟨g, 0, none⟩) l := by
  intro i hi
  have hg := (h.lt g rfl).2
  have q : ∀ j, j < 4 → w.cell? ⟨g, i * 4 + j, none⟩ = l[i].vals[j]? := fun j hj => by
    rw [h.cellAt (i * 4 + j) (by omega), paRow_get _ i j hi hj]
  have e : (⟨g, 0, none⟩ : Addr).add (i * 4) = ⟨g, i * 4, none⟩ := by unfold Addr.add; split <;> simp_all
  exact ⟨_, rfl, hg, by rw [e]; exact q 0 (by omega), by rw [e]; exact q 1 (by omega), by rw [e]; exact q 2 (by omega), by rw [e]; exact q 3 (by omega)⟩
theorem paRow_set : ∀ (l : List Pa) (i : Nat) (s : ByteArray), i < l.length → (paRow l).set (i * 4 + 1) (.string s) = paRow (setTx l i s)
  | t :: l, 0, s, _ => by simp [paRow, Pa.vals, setTx]
  | t :: l, i + 1, s, h => by
    have ih := paRow_set l i s (by simpa using h)
    have e : setTx (t :: l) (i + 1) s = t :: setTx l i s := by simp [setTx]
    rw [e]
    show (t.vals ++ paRow l).set ((i + 1) * 4 + 1) _ = t.vals ++ paRow (setTx l i s)
    rw [List.set_append_right _ _ (by show 4 ≤ _; omega), ← ih]
    congr 2
    show (i + 1) * 4 + 1 - 4 = _
    omega
theorem VT.trs {w : World} {b : Nat} {n : Nd} {t : T} (h : VT w b n t) : n.kn = t.ks.length ∧ ∃ nds : List Nd, nds.length = t.ks.length ∧ Trs w (fun g => b ≤ g) t.ks nds ∧
    (t.ks = [] ∨ ∃ kg ko, n.kp = some ⟨kg, ko, none⟩ ∧ ∀ (i : Nat) (h : i < nds.length), NodeAt w kg (ko + i * 4) nds[i]) := by
  obtain ⟨_, _, _, h4, nds, h5, h6, h7⟩ := h.kids
  refine ⟨h4, nds, h5, ?_, h6.imp id fun ⟨kg, ko, a, _, c⟩ => ⟨kg, ko, a, c⟩⟩
  generalize t.ks = ts at *
  clear h6 h4
  induction ts generalizing nds with
  | nil => exact List.length_eq_zero_iff.1 h5
  | cons t ts ih =>
    match nds, h5 with
    | nd :: nds, h5 =>
      refine ⟨nd, nds, rfl, h7 0 (by simp) (by simp), ih nds (by simpa using h5) fun i hi hi2 => ?_⟩
      exact h7 (i + 1) (by simpa using hi) (by simpa using hi2)
theorem ndRow_one : ∀ (l : List Nd), ∀ u ∈ ndRow l, u.oneCell' = true
  | [], u, h => by cases h
  | t :: l, u, h => by
    rcases List.mem_append.1 h with h | h
    · simp [Nd.vals] at h
      rcases h with rfl | rfl | rfl | rfl <;> rfl
    · exact ndRow_one l u h
theorem ndRow_cells {w : World} {kg ko : Nat} {nds : List Nd} (h : ∀ (i : Nat) (h : i < nds.length), NodeAt w kg (ko + i * 4) nds[i]) : ∀ (j : Nat) (u : Value), (ndRow nds)[j]? = some u → w.cell? ((⟨kg, ko, none⟩ : Addr).add j) = some u := by
  intro j u hj
  have hlt : j < (ndRow nds).length := (List.getElem?_eq_some_iff.1 hj).1
  rw [ndRow_len] at hlt
  obtain ⟨i, r, hr, rfl⟩ : ∃ i r, r < 4 ∧ j = i * 4 + r := ⟨j / 4, j % 4, Nat.mod_lt _ (by omega), by omega⟩
  have hi : i < nds.length := by omega
  rw [ndRow_get nds i r hi hr] at hj
  obtain ⟨h3, h4, h5, h6⟩ := h i hi
  have e : ∀ n : Nat, (⟨kg, ko, none⟩ : Addr).add n = ⟨kg, ko + n, none⟩ := fun n => by unfold Addr.add; split <;> simp_all
  rw [e]
  match r, hr with
  | 0, _ => simp [Nd.vals] at hj; subst hj; rw [show ko + (i * 4 + 0) = ko + i * 4 from by omega]; exact h3
  | 1, _ => simp [Nd.vals] at hj; subst hj; rw [show ko + (i * 4 + 1) = ko + i * 4 + 1 from by omega]; exact h4
  | 2, _ => simp [Nd.vals] at hj; subst hj; rw [show ko + (i * 4 + 2) = ko + i * 4 + 2 from by omega]; exact h5
  | 3, _ => simp [Nd.vals] at hj; subst hj; rw [show ko + (i * 4 + 3) = ko + i * 4 + 3 from by omega]; exact h6
/-- 'append' of a tree's kids to an empty row of one's own. -/
theorem append_kids {w : World} {base e : Nat} {p : Option Addr} {c : Nat} {nds : List Nd} (hown : w.ownsRow base 25 4 (.slice (some ⟨e, 0, none⟩) 0 0) 0 []) (hbase : base ≤ w.heap.size)
    (h : nds = [] ∨ ∃ kg ko, p = some ⟨kg, ko, none⟩ ∧ ∀ (i : Nat) (h : i < nds.length), NodeAt w kg (ko + i * 4) nds[i]) (hn : nds.length ≤ 1000) (ty : TypeId) :
    ∃ v' w', (Builtin.append_ #[23, 23] ty #[.slice (some ⟨e, 0, none⟩) 0 0, .slice p nds.length c]).run Tryd.prog w = .ok v' w' ∧ w'.ownsRow base 25 4 v' nds.length (ndRow nds) ∧ w.grownBy w' (some e) ∧ (v'.ownBlock = some e ∨ v'.ownBlock = some w.heap.size) := by
  obtain ⟨i0, hi0, hz0, hz1, hz2⟩ := info_parts Tryd.infoNode
  cases p with
  | none =>
    rcases h with rfl | ⟨_, _, h, _⟩
    · refine ⟨.slice (some ⟨e, 0, none⟩) 0 0, w, ?_, hown, ⟨rfl, rfl, rfl, Nat.le_refl _, fun _ _ _ => rfl⟩, .inl rfl⟩
      have := run_append_room_src (P := Tryd.prog) w 23 23 ty 25 i0 Tryd.underlying23 hi0 e 0 0 0 _ 0 [] (Src.ofNil w Tryd.underlying23 c) (by omega) (fun j hj => by simp at hj) (fun j hj => by simp at hj)
      simpa [World.setCells] using this
    · cases h
  | some a =>
    have hnews : ∀ (j : Nat) (u : Value), (ndRow nds)[j]? = some u → w.cell? (a.add j) = some u := by
      rcases h with rfl | ⟨kg, ko, h, h2⟩
      · intro j u hj; simp [ndRow] at hj
      · injection h with h; subst h
        exact ndRow_cells h2
    obtain ⟨v', w', hr, h2, h3, _, h5⟩ := run_append_own_at (P := Tryd.prog) w base 23 ty 25 i0 (.agg #[.string ⟨#[]⟩, .string ⟨#[]⟩, .int .i64 0, .slice none 0 0]) 4 64 Tryd.underlying23 hi0 hz0 hz1 hz2 rfl (by decide) (.slice (some ⟨e, 0, none⟩) 0 0) 0 [] hown a nds.length c (ndRow nds) (ndRow_len nds) hnews (ndRow_one nds) (by unfold maxLen; omega) (by omega) hbase
    refine ⟨v', w', hr, ?_, h3, h5⟩
    simpa using h2
end Go.Proofs.YtgahamppfdhnaaaDoor
