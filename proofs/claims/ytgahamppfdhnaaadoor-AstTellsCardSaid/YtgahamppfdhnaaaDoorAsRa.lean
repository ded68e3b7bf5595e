/-
  CONTRACT of the document's own All (layer 12): a row of nodes, each with how deep it lies.
-/
import Derived.Test.YtgahamppfdhnaaaDoorAsFi
namespace Go.Proofs.YtgahamppfdhnaaaDoor
open Go.RowKit

/-- A node with its depth, as five cells. -/
structure Fl where
  d : Nat
  n : Nd
def Fl.vals (x : Fl) : List Value := .int .i64 (x.d : Int) :: x.n.vals
def flRow : List Fl → List Value
  | [] => []
  | t :: l => t.vals ++ flRow l
theorem flRow_append : ∀ (l m : List Fl), flRow (l ++ m) = flRow l ++ flRow m
  | [], _ => rfl
  | t :: l, m => by show t.vals ++ flRow (l ++ m) = _; rw [flRow_append l m]; simp [flRow]
theorem flRow_len : ∀ l : List Fl, (flRow l).length = l.length * 5
  | [] => rfl
  | t :: l => by show (t.vals ++ flRow l).length = _; rw [List.length_append, flRow_len l]; simp [Fl.vals, Nd.vals]; omega
theorem flRow_get : ∀ (l : List Fl) (i j : Nat) (h : i < l.length), j < 5 → (flRow l)[i * 5 + j]? = l[i].vals[j]?
  | t :: l, 0, j, _, hj => by
    show (t.vals ++ flRow l)[0 * 5 + j]? = t.vals[j]?
    rw [List.getElem?_append_left (by show 0 * 5 + j < 5; omega), show 0 * 5 + j = j from by omega]
  | t :: l, i + 1, j, h, hj => by
    show (t.vals ++ flRow l)[(i + 1) * 5 + j]? = (l[i]'(by simpa using h)).vals[j]?
    rw [List.getElem?_append_right (by show 5 ≤ (i + 1) * 5 + j; omega), show (i + 1) * 5 + j - t.vals.length = i * 5 + j from by show (i + 1) * 5 + j - 5 = _; omega]
    exact flRow_get l i j (by simpa using h) hj
theorem flRow_one : ∀ (l : List Fl), ∀ u ∈ flRow l, u.oneCell' = true
  | [], u, h => by cases h
  | t :: l, u, h => by
    rcases List.mem_append.1 h with h | h
    · simp [Fl.vals, Nd.vals] at h
      rcases h with rfl | rfl | rfl | rfl | rfl <;> rfl
    · exact flRow_one l u h
/-- These entries are those trees, in blocks of B. -/
def FlT (W : World) (B : Nat → Prop) (fs : List Fl) (l : List (Nat × T)) : Prop := fs.length = l.length ∧ ∀ (i : Nat) (h : i < fs.length) (h2 : i < l.length), fs[i].d = l[i].1 ∧ ∃ ks, TV W B fs[i].n ks ∧ fs[i].n.t ks = l[i].2
theorem FlT.next {W W' : World} {B : Nat → Prop} {fs : List Fl} {l : List (Nat × T)} (h : FlT W B fs l) (hb : Below W.heap.size W W') : FlT W' B fs l :=
  ⟨h.1, fun i h1 h2 => by obtain ⟨e, ks, k1, k2⟩ := h.2 i h1 h2; exact ⟨e, ks, k1.next hb, k2⟩⟩
theorem FlT.append {W : World} {B : Nat → Prop} {fs gs : List Fl} {l m : List (Nat × T)} (h : FlT W B fs l) (k : FlT W B gs m) : FlT W B (fs ++ gs) (l ++ m) := by
  refine ⟨by rw [List.length_append, List.length_append, h.1, k.1], fun i h1 h2 => ?_⟩
  by_cases hi : i < fs.length
  · rw [List.getElem_append_left hi, List.getElem_append_left (by have := h.1; omega)]
    exact h.2 i hi (by have := h.1; omega)
  · have hl := h.1
    rw [List.length_append] at h1 h2
    rw [List.getElem_append_right (by omega), List.getElem_append_right (by omega)]
    have := k.2 (i - fs.length) (by omega) (by omega)
    simp only [hl] at this ⊢
    exact this
theorem Tryd.infoFlat : (Tryd.prog.info? 43).map (fun i => (i.zero, i.size, i.bytes)) = some (some (.agg #[.int .i64 0, .string ⟨#[]⟩, .string ⟨#[]⟩, .int .i64 0, .slice none 0 0]), 5, 72) := by kernel_rfl
theorem Rp1.nextN {w W W' : World} {B : Nat → Prop} {N : Nd} {ks : List AT} (h : Rp1 w B N ks W) (hb : Below (w.heap.size + 1) W W') (hB : ∀ k, B k → k < w.heap.size) : Rp1 w B N ks W' :=
  ⟨h.bel.trans (hb.mono (by omega)), h.n.kept (hb.block _ (by omega)), MemL.kept (fun k hk _ => hb.block k (by have := hB k hk; omega)) (fun _ h _ => h) _ h.ks⟩
theorem FlT.nextN {n : Nat} {W W' : World} {B : Nat → Prop} {fs : List Fl} {l : List (Nat × T)} (h : FlT W B fs l) (hb : Below n W W') (hB : ∀ k, B k → k < n) : FlT W' B fs l :=
  ⟨h.1, fun i h1 h2 => by obtain ⟨e, ks, k1, k2⟩ := h.2 i h1 h2; exact ⟨e, ks, k1.kept (fun k hk _ => hb.block k (hB k hk)) (fun _ h _ => h), k2⟩⟩
def RAlOk (a : AT) : Prop := ∀ (d : Nat) (w : World) (B : Nat → Prop), TV w B a.nd a.ks → (∀ k, B k → k < w.heap.size) → (er a).size ≤ 1000 → d + (er a).size ≤ 1000000 →
  Calls Tryd.prog 15 #[a.nd.val, .int .i64 (d : Int)] w fun e w' => ∃ g c fs, e = .returned (.slice (some ⟨g, 0, none⟩) fs.length c) ∧ w'.ownsRow w.heap.size 43 5 (.slice (some ⟨g, 0, none⟩) fs.length c) fs.length (flRow fs) ∧ FlT w' B fs (flatTT d (er a)) ∧ Below w.heap.size w w'
theorem flatTTL_snoc (d : Nat) (ks : List AT) (k : Nat) (h : k < ks.length) : flatTTL d (erL (ks.take (k + 1))) = flatTTL d (erL (ks.take k)) ++ flatTT d (er ks[k]) := by
  have app : ∀ a b : List T, flatTTL d (a ++ b) = flatTTL d a ++ flatTTL d b := by
    intro a b
    induction a with
    | nil => rw [flatTTL]; rfl
    | cons x l ih => show flatTTL d (x :: (l ++ b)) = _; rw [flatTTL, flatTTL, ih, List.append_assoc]
  rw [erL_take ks k h, app, flatTTL, flatTTL, List.append_nil]
theorem flatTTL_le (d : Nat) (ks : List AT) (k : Nat) : (flatTTL d (erL (ks.take k))).length ≤ sizeL (erL ks) := by
  rw [flatTTL_len]
  have := sizeL_append (erL (ks.take k)) (erL (ks.drop k))
  rw [erL_map, erL_map, ← List.map_append, List.take_append_drop, ← erL_map, ← erL_map] at this
  omega
set_option maxHeartbeats 8000000 in
set_option maxRecDepth 100000 in
theorem rall_in (op tx : ByteArray) (pl : Int) (kp : Option Addr) (kc d : Nat) (ks : List AT) (w : World) (B : Nat → Prop) (hkd : Kd kp ks) (hm : MemL w B ks) (hB : ∀ k, B k → k < w.heap.size) (ih : ∀ k ∈ ks, RAlOk k) (hz : sizeL (erL ks) ≤ 999) (hd : d + sizeL (erL ks) ≤ 999999) :
    Calls Tryd.prog 15 #[.agg #[.string op, .string tx, .int .i64 pl, .slice kp ks.length kc], .int .i64 (d : Int)] w fun e w' => ∃ g c fs, e = .returned (.slice (some ⟨g, 0, none⟩) fs.length c) ∧ w'.ownsRow w.heap.size 43 5 (.slice (some ⟨g, 0, none⟩) fs.length c) fs.length (flRow fs) ∧ FlT w' B fs ((d, .mk op tx pl (erL ks)) :: flatTTL (d + 1) (erL ks)) ∧ Below w.heap.size w w' := by
  have hba : Below w.heap.size w (w.alloc (.cells #[.string op, .string tx, .int .i64 pl, .slice kp ks.length kc] 28)) := (Below.refl _ _).alloc (Nat.le_refl _) _
  have hR0 : Rp1 w B ⟨op, tx, pl, kp, ks.length, kc⟩ ks (w.alloc (.cells #[.string op, .string tx, .int .i64 pl, .slice kp ks.length kc] 28)) := ⟨hba, node_new' w ⟨op, tx, pl, kp, ks.length, kc⟩, hm.next hba⟩
  have hbr : Below (w.heap.size + 1) (w.alloc (.cells #[.string op, .string tx, .int .i64 pl, .slice kp ks.length kc] 28)) ((w.alloc (.cells #[.string op, .string tx, .int .i64 pl, .slice kp ks.length kc] 28)).alloc (.cells #[.int .i64 (d : Int), .string op, .string tx, .int .i64 pl, .slice kp ks.length kc] 43)) := (Below.refl _ _).alloc (by simp) _
  have HR : Hid (Rp1 w B ⟨op, tx, pl, kp, ks.length, kc⟩ ks ((w.alloc (.cells #[.string op, .string tx, .int .i64 pl, .slice kp ks.length kc] 28)).alloc (.cells #[.int .i64 (d : Int), .string op, .string tx, .int .i64 pl, .slice kp ks.length kc] 43))) := Lib.hid (hR0.nextN hbr hB)
  have hzz : (w.alloc (.cells #[.string op, .string tx, .int .i64 pl, .slice kp ks.length kc] 28)).heap.size = w.heap.size + 1 := by simp
  have HO : Hid (((w.alloc (.cells #[.string op, .string tx, .int .i64 pl, .slice kp ks.length kc] 28)).alloc (.cells #[.int .i64 (d : Int), .string op, .string tx, .int .i64 pl, .slice kp ks.length kc] 43)).ownsRow (w.heap.size + 1) 43 5 (.slice (some ⟨w.heap.size + 1, 0, none⟩) 1 1) 1 (flRow [⟨d, op, tx, pl, kp, ks.length, kc⟩])) := Lib.hid (by
    have := World.ownsRow_lit (base := w.heap.size + 1) (e := 43) (size := 5) (w.alloc (.cells #[.string op, .string tx, .int .i64 pl, .slice kp ks.length kc] 28)) #[.int .i64 (d : Int), .string op, .string tx, .int .i64 pl, .slice kp ks.length kc] 1 (by simp) (by decide) rfl
    rw [hzz] at this
    exact this)
  have HF : Hid (FlT ((w.alloc (.cells #[.string op, .string tx, .int .i64 pl, .slice kp ks.length kc] 28)).alloc (.cells #[.int .i64 (d : Int), .string op, .string tx, .int .i64 pl, .slice kp ks.length kc] 43)) B [⟨d, op, tx, pl, kp, ks.length, kc⟩] [(d, T.mk op tx pl (erL ks))]) := Lib.hid ⟨rfl, fun i h1 h2 => by
    have : i = 0 := by simpa using h1
    subst this
    exact ⟨rfl, ks, ⟨rfl, hkd, HR.out.ks⟩, rfl⟩⟩
  have HKD := Lib.hid hkd
  have HIH := Lib.hid ih
  have HZ := Lib.hid hz
  have HB := Lib.hid hB
  have HD := Lib.hid hd
  have hkl : ks.length ≤ 1000 := by
    have := told_sizeL_len (erL ks)
    rw [erL_len] at this
    omega
  have hd2 : d ≤ 999999 := by omega
  obtain ⟨i0, hi0, hz0, hz1, hz2⟩ := info_parts Tryd.infoFlat
  clear hba hR0 hbr hkd hm ih hz hB hzz hd
  go_enter Tryd.func15, Tryd.ntmps15
  go_wp2_with fail
  generalize (w.alloc (.cells #[.string op, .string tx, .int .i64 pl, .slice kp ks.length kc] 28)).alloc (.cells #[.int .i64 (d : Int), .string op, .string tx, .int .i64 pl, .slice kp ks.length kc] 43) = W0 at *
  go_loopw [5, 15] (fun v iv wr => ∃ (k g c : Nat) (fs : List Fl), k ≤ ks.length ∧ iv = .int .i64 (k : Int) ∧ v = .slice (some ⟨g, 0, none⟩) fs.length c ∧ Hid (wr.ownsRow (w.heap.size + 1) 43 5 v fs.length (flRow fs)) ∧ Hid (FlT wr B fs ((d, T.mk op tx pl (erL ks)) :: flatTTL (d + 1) (erL (ks.take k)))) ∧ Hid (Rp1 w B ⟨op, tx, pl, kp, ks.length, kc⟩ ks wr)) (fun _ iv _ => ks.length - (intOf iv).toNat)
  case atStart => exact ⟨0, w.heap.size + 1, 1, [⟨d, op, tx, pl, kp, ks.length, kc⟩], Nat.zero_le _, by simp, rfl, HO, by rw [List.take_zero, erL, flatTTL]; exact HF, HR⟩
  case round =>
    obtain ⟨k, g, c, fs, hk, rfl, rfl, HOr, HFr, HRr⟩ := hrel
    clear HO HF HR
    by_cases hc : k < ks.length
    · have hki : (k : Int) < (ks.length : Int) := by omega
      obtain ⟨kg, ko, rfl, hkk⟩ : ∃ kg ko, kp = some ⟨kg, ko, none⟩ ∧ ∀ (i : Nat) (h : i < ks.length), ks[i].g = kg ∧ ks[i].o = ko + i * 4 := by
        rcases HKD.out with rfl | h
        · simp at hc
        · exact h
      obtain ⟨eg, eo⟩ := hkk k hc
      obtain ⟨_, hna, hkd2, hmem2⟩ := Mem.iff.1 (HRr.out.ks.all _ (List.getElem_mem hc))
      rw [eg, eo] at hna
      have hsk := told_size_kid (List.getElem_mem hc)
      have hsz : (er ks[k]).size ≤ 1000 := by have := HZ.out; omega
      have hsd : (d + 1) + (er ks[k]).size ≤ 1000000 := by have := HD.out; omega
      have hTA : TV wr B ks[k].nd ks[k].ks := ⟨by cases ks[k]; rfl, hkd2, hmem2⟩
      have hww := HRr.out.bel.size
      have hcall := fun W (h : Below wr.heap.size wr W) => HIH.out ks[k] (List.getElem_mem hc) (d + 1) W B (hTA.next h) (fun k hk => by have := HB.out k hk; have := h.size; omega) hsz hsd
      have hfl : fs.length ≤ 1000 := by
        have h1 := HFr.out.1
        have h2 := flatTTL_le (d + 1) ks k
        have h3 := HZ.out
        rw [List.length_cons] at h1
        omega
      have HSN := Lib.hid (flatTTL_snoc (d + 1) ks k hc)
      have hlk : (flatTT (d + 1) (er ks[k])).length ≤ 1000 := by rw [flatTT_len]; exact hsz
      have HLK := Lib.hid hlk
      obtain ⟨⟨x1, x2, x3, x4, x5, x6⟩, hxa⟩ : ∃ n, n = ks[k].nd := ⟨_, rfl⟩
      rw [← hxa] at hna hcall
      simp only [Nd.val] at hcall
      have hb1 : Below wr.heap.size wr (wr.alloc (.cells #[.string x1, .string x2, .int .i64 x3, .slice x4 x5 x6] 28)) := (Below.refl _ _).alloc (Nat.le_refl _) _
      have HC := Lib.hid (hcall _ hb1)
      have HRa := Lib.hid (HRr.out.next hb1)
      have HFa := Lib.hid (HFr.out.next hb1)
      have HOa := Lib.hid (HOr.out.alloc (.cells #[.string x1, .string x2, .int .i64 x3, .slice x4 x5 x6] 28))
      obtain ⟨c0, c1, c2, c3⟩ := hna
      simp only at c0 c1 c2 c3
      clear hkk eg eo hkd2 hmem2 hsk hsz hsd hTA hcall hxa hb1 HRr HFr HOr hlk
      generalize er ks[k] = tk at *
      go_wp2_with fail
      refine HC.out.mono ?_
      rintro e w8 ⟨g8, c8, gs, rfl, hown8, hft8, hb8⟩
      have HR8 := Lib.hid (HRa.out.next hb8)
      have HF8 := Lib.hid (HFa.out.next hb8)
      have HO8 := Lib.hid (as_own_kept HOa.out (fun j hj => hb8.block j (HOa.out.lt j hj).2))
      have hg8 := (hown8.lt g8 rfl).2
      have hgl : gs.length ≤ 1000 := by have := hft8.1; have := HLK.out; omega
      have HG8 := Lib.hid (And.intro hown8 hft8)
      have hw8 : w.heap.size + 1 ≤ w8.heap.size := by have := HR8.out.n.lt; omega
      clear hb8 HRa HFa HOa HC hown8 hft8
      go_wp2_with (at_builtin; refine wpList_append_own_at _ rfl (.tmp 19) (.tmp 23) 37 rfl (w.heap.size + 1) 43 i0 (.agg #[.int .i64 0, .string ⟨#[]⟩, .string ⟨#[]⟩, .int .i64 0, .slice none 0 0]) 5 72 Tryd.underlying37 hi0 hz0 hz1 hz2 rfl (by decide) (.slice (some ⟨g, 0, none⟩) fs.length c) fs.length (flRow fs) rfl HO8.out ⟨g8, 0, none⟩ gs.length c8 (flRow gs) rfl (flRow_len gs) ?c1 (flRow_one gs) ?c3 ?c4 ?c5 ?_)
      case c1 =>
        intro j u hj
        have h := HG8.out.1.cells (g := g8) rfl j u hj
        exact h
      case c3 => unfold maxLen; omega
      case c4 => omega
      case c5 => exact hw8
      intro v9 w9 hown9 hgrow9 _ _
      obtain ⟨g9, c9, rfl⟩ := as_pos hown9 (by have := HF8.out.1; rw [List.length_cons] at this; omega)
      have hb9 : Below (w.heap.size + 1) w8 w9 := (Below.refl _ _).grown hgrow9 hw8 (fun j hj => (HO8.out.lt j hj).1)
      have HR9 := Lib.hid (HR8.out.nextN hb9 HB.out)
      have HF9 : Hid (FlT w9 B (fs ++ gs) ((d, T.mk op tx pl (erL ks)) :: flatTTL (d + 1) (erL (ks.take (k + 1))))) := Lib.hid (by
        rw [HSN.out]
        have := (HF8.out.nextN hb9 (fun k hk => by have := HB.out k hk; omega)).append (HG8.out.2.nextN hb9 (fun k hk => by have := HB.out k hk; omega))
        simpa using this)
      have HO9 : Hid (w9.ownsRow (w.heap.size + 1) 43 5 (.slice (some ⟨g9, 0, none⟩) (fs ++ gs).length c9) (fs ++ gs).length (flRow (fs ++ gs))) := Lib.hid (by
        rw [List.length_append, flRow_append]
        exact hown9)
      have HLN : Hid (fs.length + gs.length = (fs ++ gs).length) := Lib.hid (by rw [List.length_append])
      rw [HLN.out]
      clear hown9 hgrow9 hb9 HR8 HF8 HO8 HG8 hg8
      generalize fs ++ gs = hs at *
      go_wp2_with fail
      go_roundw
      case measure => simp [intOf]; omega
      case rel => exact ⟨k + 1, g9, c9, hs, by omega, by simp, rfl, HO9, HF9, HR9⟩
    · obtain rfl : k = ks.length := by omega
      have hki : ¬ (ks.length : Int) < (ks.length : Int) := by omega
      have HFF : Hid (FlT wr B fs ((d, T.mk op tx pl (erL ks)) :: flatTTL (d + 1) (erL ks))) := Lib.hid (by have := HFr.out; rw [List.take_length] at this; exact this)
      clear HFr
      go_wp2_with fail
      go_ret
      exact ⟨g, c, fs, rfl, HOr.out.mono (by omega), HFF.out, HRr.out.bel⟩
theorem rall_one (a : AT) (ih : ∀ k ∈ a.ks, RAlOk k) : RAlOk a := by
  intro d w B hA hB hz hd
  obtain ⟨op, tx, pl, kp, kc, g, o, ks⟩ := a
  rw [er, T.size] at hz hd
  rw [er, flatTT]
  exact rall_in op tx pl kp kc d ks w B hA.kd hA.mem hB ih (by omega) (by omega)
mutual
theorem rall_any : ∀ a : AT, RAlOk a
  | .mk op tx pl kp kc g o ks => rall_one (.mk op tx pl kp kc g o ks) (rallAL ks)
theorem rallAL : ∀ (l : List AT), ∀ k ∈ l, RAlOk k
  | [], k, h => by cases h
  | a :: l, k, h => by
    rcases List.mem_cons.1 h with h | h
    · rw [h]; exact rall_any a
    · exact rallAL l k h
end
end Go.Proofs.YtgahamppfdhnaaaDoor
