/-
  CONTRACTS of layer 16's records: Load (where one byte parts), Count, Text.
-/
import Derived.Test.YtllbnbnpcogckaaGreatDoorInW3
namespace Go.Proofs.YtllbnbnpcogckaaGreatDoor
open Go.RowKit

/-- What a round of Load's loop finds. -/
structure LdR (w : World) (l : List ByteArray) (p : Option Addr) (c n G k : Nat) (wr : World) : Prop where
  parts : wr.ownsRow w.heap.size 9 1 (.slice p n c) n (l.map Value.string)
  row : wr.ownsRow w.heap.size 42 3 (.slice (some ⟨G, 0, none⟩) n n) n (ceRow ((l.take k).map inC ++ List.replicate (n - k) zc))
  ne : ∀ g, (Value.slice p n c).ownBlock = some g → g ≠ G
  below : Below w.heap.size w wr
theorem LdR.next {w : World} {l : List ByteArray} {p : Option Addr} {c n G k : Nat} {wr w1 : World} (h : LdR w l p c n G k wr) (hb : Below wr.heap.size wr w1) : LdR w l p c n G k w1 :=
  ⟨own_next h.parts hb, own_next h.row hb, h.ne, h.below.trans (hb.mono h.below.size)⟩
theorem LdR.cell {w : World} {l : List ByteArray} {p : Option Addr} {c n G k : Nat} {wr : World} (h : LdR w l p c n G k wr) (hn : l.length = n) (hk : k < n) :
    wr.cell? ⟨G, k * 3, none⟩ = some (.int .i64 0) ∧ wr.cell? ⟨G, k * 3 + 1, none⟩ = some (.int .i64 0) ∧ wr.cell? ⟨G, k * 3 + 2, none⟩ = some (.string ⟨#[]⟩) ∧ wr.frozen? ⟨G, k * 3, none⟩ = false ∧ wr.frozen? ⟨G, k * 3 + 1, none⟩ = false ∧ wr.frozen? ⟨G, k * 3 + 2, none⟩ = false ∧ w.heap.size ≤ G ∧ G < wr.heap.size := by
  have hl : k < ((l.take k).map inC ++ List.replicate (n - k) zc).length := by simp; omega
  have e : ((l.take k).map inC ++ List.replicate (n - k) zc)[k] = zc := by
    rw [List.getElem_append_right (by simp; omega)]
    simp
  have q : ∀ j, j < 3 → wr.cell? ⟨G, k * 3 + j, none⟩ = zc.vals[j]? := fun j hj => by
    rw [h.row.cellAt (k * 3 + j) (by omega), ceRow_get _ k j hl hj, e]
  have hlt := h.row.lt G rfl
  exact ⟨q 0 (by omega), q 1 (by omega), q 2 (by omega), h.row.frozenAt _, h.row.frozenAt _, h.row.frozenAt _, hlt.1, hlt.2⟩
theorem LdR.put {w : World} {l : List ByteArray} {p : Option Addr} {c n G k : Nat} {wr : World} (h : LdR w l p c n G k wr) (hn : l.length = n) (hk : k < n) (x : ByteArray) (hx : l[k]? = some x) :
    LdR w l p c n G (k + 1) (((wr.setCell ⟨G, k * 3, none⟩ (.int .i64 (inK x.data.toList))).setCell ⟨G, k * 3 + 1, none⟩ (.int .i64 (inN x.data.toList))).setCell ⟨G, k * 3 + 2, none⟩ (.string x)) := by
  have hlt := (h.row.lt G rfl).1
  refine ⟨own_kept h.parts fun g hg => ?_, ?_, h.ne, ((h.below.setCell (p := ⟨G, k * 3, none⟩) hlt _).setCell (p := ⟨G, k * 3 + 1, none⟩) hlt _).setCell (p := ⟨G, k * 3 + 2, none⟩) hlt _⟩
  · have := h.ne g hg
    rw [Below.heap_setCell _ _ _ g this, Below.heap_setCell _ _ _ g this, Below.heap_setCell _ _ _ g this]
  · have h1 := (((h.row.stored (k * 3) (.int .i64 (inK x.data.toList))).1.stored (k * 3 + 1) (.int .i64 (inN x.data.toList))).1.stored (k * 3 + 2) (.string x)).1
    have e : List.replicate (n - k) zc = zc :: List.replicate (n - (k + 1)) zc := by
      rw [show n - k = (n - (k + 1)) + 1 by omega, List.replicate_succ]
    have hle : ((l.take k).map inC).length = k := by simp; omega
    have h2 := ceRow_set ((l.take k).map inC) (List.replicate (n - (k + 1)) zc) zc (inC x)
    rw [hle] at h2
    rw [e] at h1
    have e2 : (l.take (k + 1)).map inC = (l.take k).map inC ++ [inC x] := by rw [List.take_add_one, hx]; simp
    rw [e2, List.append_assoc]
    exact h2 ▸ h1
set_option maxHeartbeats 2000000 in
set_option maxRecDepth 100000 in
theorem load_any (b : Nat) (x y : Value) (s sep : ByteArray) (w : World) (hs : s.size ≤ 4000) (hsep : sep.size = 1) (hn : (fieldsB s sep).length ≤ 500) (hx : w.heap[b]? = some (.cells #[x, y] 35 (0, 0))) (G : Gi w) :
    Calls Tryz.prog 12 #[.pointer (some ⟨b, 0, none⟩), .string s, .string sep] w (LdPost b s ((fieldsB s sep).map inC) w) := by
  have C := Lib.hid (isplit_any s sep w hs hsep hn G)
  have HS := Lib.hid (fields_small s sep)
  have HX := Lib.hid hx
  have hbl := block_lt hx
  clear G hx
  generalize fieldsB s sep = l at *
  obtain ⟨n, hl⟩ : ∃ n, l.length = n := ⟨_, rfl⟩
  have hn' : n ≤ 500 := by omega
  have hmk := make_z n (by omega)
  have hni : 0 ≤ (n : Int) := by omega
  go_enter Tryz.func12, Tryz.ntmps12
  go_wp2_with fail
  refine C.out.mono ?_
  rintro e w1 ⟨v, rfl, ho, hb⟩
  obtain ⟨p, c, rfl⟩ : ∃ p c, v = .slice p l.length c := by
    rcases ho.2 with ⟨rfl, h0⟩ | ⟨g, cap, cur, rfl, _⟩
    · exact ⟨none, 0, by rw [h0]⟩
    · exact ⟨_, _, rfl⟩
  have HI : Hid (LdR w l p c n w1.heap.size 0 (w1.alloc (.cells (zRow n) 42))) := Lib.hid (by
    subst hl
    refine ⟨ho.alloc _, by simpa using own_z l.length (by omega) w1 hb.size, fun g hg => ?_, hb.alloc hb.size _⟩
    have := (ho.lt g hg).2
    omega)
  clear ho hb C
  rw [hl]
  go_wp2_with fail
  clear hmk
  generalize w1.alloc (.cells (zRow n) 42) = w2 at *
  generalize w1.heap.size = gg at *
  go_loopw [26] (fun iv wr => ∃ k : Nat, k ≤ n ∧ iv = .int .i64 k ∧ Hid (LdR w l p c n gg k wr)) (fun iv _ => n - (intOf iv).toNat)
  case atStart => exact ⟨0, Nat.zero_le _, rfl, HI⟩
  case round =>
    obtain ⟨k, hk, rfl, HR⟩ := hrel
    clear HI
    by_cases hlt : k < n
    · have hki : (k : Int) < (n : Int) := by omega
      obtain ⟨g, rfl⟩ : ∃ g, p = some ⟨g, 0, none⟩ := by
        rcases HR.out.parts.2 with ⟨h1, h0⟩ | ⟨g, cap, cur, h1, _⟩
        · omega
        · injection h1 with h1 _ _; exact ⟨g, h1⟩
      have hll : k < l.length := by omega
      have hsm := HS.out _ (List.getElem_mem hll)
      have c0 := own_at HR.out.parts k hlt hll
      have CL := Lib.hid fun W => input_any l[k] W (by omega)
      have hxk : l[k]? = some l[k] := List.getElem?_eq_getElem hll
      unfold cv at CL
      generalize l[k] = t at *
      have HT := Lib.hid hxk
      clear hsm hxk
      have hP := fun (wq : World) (h : LdR w l (some ⟨g, 0, none⟩) c n gg k wq) => h.put hl hlt t HT.out
      have HP := Lib.hid hP
      clear hP
      generalize inK t.data.toList = ik at *
      generalize inN t.data.toList = iN at *
      go_wp2_with fail
      refine (CL.out _).mono ?_
      rintro e w3 ⟨rfl, hb3⟩
      have HR3 := Lib.hid (HR.out.next hb3)
      obtain ⟨d0, d1, d2, f0, f1, f2, hgw, hg3⟩ := HR3.out.cell hl hlt
      have HN := Lib.hid (HP.out w3 HR3.out)
      clear hb3 HR HR3 c0 CL HP hgw
      go_wp2_with fail
      go_roundw
      case rel => exact ⟨k + 1, by omega, by go_num, HN⟩
      case measure => simp [intOf]; omega
    · have hki : ¬ (k : Int) < (n : Int) := by omega
      have hkn : k = n := by omega
      subst hkn
      have hrow := HR.out.row
      rw [List.take_of_length_le (by omega), Nat.sub_self, List.replicate_zero, List.append_nil] at hrow
      have HRW := Lib.hid hrow
      have HB := Lib.hid HR.out.below
      have CL := Lib.hid fun W => clone_any s W (by omega)
      clear HR hrow
      go_wp2_with fail
      refine (CL.out _).mono ?_
      rintro e w3 ⟨rfl, hb3⟩
      have hb4 := HB.out.trans (hb3.mono HB.out.size)
      have hx3 := (hb4.block b hbl).trans HX.out
      have hc0 : w3.cell? ⟨b, 0, none⟩ = some x := block_cell hx3
      have hc1 : w3.cell? ⟨b, 1, none⟩ = some y := block_cell hx3
      have hf0 : w3.frozen? ⟨b, 0, none⟩ = false := block_frozen hx3
      have hf1 : w3.frozen? ⟨b, 1, none⟩ = false := block_frozen hx3
      have HE := Lib.hid (Rec.laid (s := s) (l := l.map inC) hx3 (by rw [List.length_map, hl]; exact own_next HRW.out hb3) hbl (Onl.of_below hb4 (Nat.le_refl _)))
      clear hb3 hb4 hx3 HRW HB HX CL
      go_wp2_with fail
      go_ret
      exact ⟨rfl, HE.out⟩
end Go.Proofs.YtllbnbnpcogckaaGreatDoor
