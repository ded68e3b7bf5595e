/-
  THE WALK of ArrayLast.
-/
import Derived.Test.YtnjhpfhfiooklaaDoorArMd
import Derived.Lib.SlicesS
namespace Go.Proofs.YtnjhpfhfiooklaaDoor
open Go.RowKit Go.Maps

def neK (s x : ByteArray) : Bool := x.data.toList != s.data.toList
def keysP (P : List Pr) : List ByteArray := P.map Prod.fst
theorem keysP_del (P : List Pr) (s : ByteArray) : keysP (delP P s) = (keysP P).filter (neK s) := by
  simp only [keysP, delP, List.filter_map]
  rfl
theorem hasP_del (P : List Pr) (s : ByteArray) : hasP (delP P s) s = false := by
  simp [hasP, delP]
theorem putP_del (P : List Pr) (s : ByteArray) (t : Ce) : putP (delP P s) s t = delP P s ++ [(s, t)] := by
  unfold putP
  rw [if_neg]
  rintro ⟨p, hp, he⟩
  have := (List.mem_filter.1 hp).2
  simp [he] at this
theorem row_at {w : World} {B g c n : Nat} {e : TypeId} {l : List ByteArray} (h : w.ownsRow B e 1 (.slice (some ⟨g, 0, none⟩) n c) n (l.map Value.string)) (k : Nat) (hk : k < n) (hl : k < l.length) : w.cell? ⟨g, k, none⟩ = some (.string l[k]) := by
  have := h.cellAt k (by omega)
  rw [this, List.getElem?_map, List.getElem?_eq_getElem hl]
  rfl
/-- What the first loop builds. -/
structure Ws (w0 wr : World) (l : List ByteArray) (v : Value) (m : Nat) : Prop where
  row : wr.ownsRow w0.heap.size 9 1 v m (l.map Value.string)
  len : m = l.length
  below : Below w0.heap.size w0 wr
theorem row_below {w w' : World} {B : Nat} {e : TypeId} {z : Nat} {v : Value} {n : Nat} {xs : List Value} (h : w.ownsRow B e z v n xs) (hb : Below w.heap.size w w') : w'.ownsRow B e z v n xs :=
  own_keptA h fun g hg => hb.block g (h.lt g hg).2
theorem AA.delF {F : Nat → Prop} {w0 W W' : World} {b : Nat} {P Q : List Pr} (h : AA w0 W b P) (hF : ∀ k, F k → w0.heap.size ≤ k) (hs : delR F W b Q W') : AA w0 W' b Q :=
  ⟨h.bel.trans (hs.2.below hF h.bel.size), hs.1.mono fun k _ hk => hF k hk⟩
theorem row_oth {F : Nat → Prop} {w w' : World} {B : Nat} {e : TypeId} {z : Nat} {v : Value} {n : Nat} {xs : List Value} (h : w.ownsRow B e z v n xs) (ho : Oth F w w') (hF : ∀ k, F k → k < B) : w'.ownsRow B e z v n xs :=
  own_keptA h fun g hg => by
    obtain ⟨h1, h2⟩ := h.lt g hg
    exact ho.block g h2 fun hf => by have := hF g hf; omega
/-- The first loop's state: what it has built (in block g), and what stays. -/
structure LsR (w1 w3 wr : World) (ga : Option Addr) (g c m : Nat) (xs : List ByteArray) : Prop where
  row : wr.ownsRow w1.heap.size 9 1 (.slice (some ⟨g, 0, none⟩) m c) m (xs.map Value.string)
  len : m = xs.length
  ne : ∀ a, ga = some a → a.block ≠ g ∧ a.block < wr.heap.size
  keep : ∀ a, ga = some a → wr.heap[a.block]? = w3.heap[a.block]?
  below : Below w1.heap.size w1 wr
theorem ls_push {w1 w3 wr w5 : World} {ga : Option Addr} {g c m g' c' : Nat} {xs : List ByteArray} {x : ByteArray} {o : Obj} (h : LsR w1 w3 wr ga g c m xs)
    (ho : w5.ownsRow w1.heap.size 9 1 (.slice (some ⟨g', 0, none⟩) (m + 1) c') (m + 1) (xs.map Value.string ++ [.string x])) (hg : (wr.alloc o).grownBy w5 (some g)) (hat : g' = g ∨ g' = (wr.alloc o).heap.size) : LsR w1 w3 w5 ga g' c' (m + 1) (xs ++ [x]) := by
  have hs : wr.heap.size + 1 ≤ w5.heap.size := by have := hg.size; simpa using this
  refine ⟨by rw [List.map_append]; exact ho, by rw [List.length_append, ← h.len, List.length_singleton], fun a ha => ?_, fun a ha => ?_, ?_⟩
  · obtain ⟨h1, h2⟩ := h.ne a ha
    refine ⟨?_, by omega⟩
    rcases hat with rfl | rfl
    · exact h1
    · simp; omega
  · obtain ⟨h1, h2⟩ := h.ne a ha
    exact (hg.block a.block (by simp; omega) (fun e => h1 (by injection e))).trans ((Below.heap_alloc wr o _ h2).trans (h.keep a ha))
  · exact (h.below.alloc h.below.size o).grown hg (by simp; have := h.below.size; omega) (fun j hj => by
      injection hj with hj
      subst hj
      exact (h.row.lt g rfl).1)
theorem take_filter (s : ByteArray) (l : List ByteArray) (k : Nat) (h : k < l.length) : (l.take (k + 1)).filter (neK s) = (l.take k).filter (neK s) ++ (if neK s l[k] then [l[k]] else []) := by
  rw [List.take_succ_eq_append_getElem h, List.filter_append]
  by_cases hc : neK s l[k] = true
  · simp [hc]
  · simp [hc]
set_option maxRecDepth 100000 in
set_option maxHeartbeats 4000000 in
theorem last_walk (q : Option Addr) (cap : Nat) (l : List Ac) (key : ByteArray) (w : World) (hA : AcAt w q l) (hl : l.length ≤ maxLen) (ht : ∀ t ∈ l, t.ok) (hk : key.size ≤ maxLen) (htab : Lib.TabBelow Tryd.prog w.heap.size w "internal/strconv.uint64pow10" .u64 Lib.pow10Tab) :
    Calls Tryd.prog 6 #[.slice q l.length cap, .string key] w fun e w' => e = .returned (.bool true) ∧ Below w.heap.size w w' := by
  have CM := Lib.hid (made_any q cap l w hA hl ht)
  have CU := Lib.hid (fun w => cut_any key 40 w hk (by omega))
  have HT := Lib.hid htab
  have htk := cutB_size key 40
  clear hA hl ht hk htab
  generalize cutB key 40 = s at *
  go_enter Tryd.func6, Tryd.ntmps6
  go_wp2_with fail
  refine CM.out.mono ?_
  rintro e w1 ⟨b, P, rfl, hM⟩
  have M1 := Lib.hid hM
  clear hM CM
  go_wp2_with fail
  refine (CU.out _).mono ?_
  rintro e w2 ⟨rfl, rfl⟩
  go_wp2_with fail
  have b1 : Below w1.heap.size w1 (w1.alloc (.cells #[] 9)) := (Below.refl _ _).alloc (Nat.le_refl _) _
  have hz1 : (w1.alloc (.cells #[] 9)).heap.size = w1.heap.size + 1 := by simp
  have hro0 : (w1.alloc (.cells #[] 9)).ownsRow w1.heap.size 9 1 (.slice (some ⟨w1.heap.size, 0, none⟩) 0 0) 0 (([] : List ByteArray).map Value.string) := World.ownsRow_made w1 #[] 0 (Nat.le_refl _) (by decide) rfl
  have HRO := Lib.hid hro0
  have HB1 := Lib.hid b1
  have CK := Lib.hid ((M1.out.aa.next b1).keys (fun p hp => by have := (M1.out.key p hp).1; omega))
  generalize w1.alloc (.cells #[] 9) = W1 at *
  clear hro0 b1
  refine CK.out.mono ?_
  rintro e w3 ⟨v, rfl, hro, hb3⟩
  obtain ⟨ga, gc, rfl⟩ : ∃ a c, v = .slice a (keysP P).length c := by
    rcases hro.2 with ⟨h1, h2⟩ | ⟨g, cap, _, h1, _⟩
    · refine ⟨none, 0, ?_⟩
      have h3 : (keysP P).length = 0 := h2
      rw [h3, h1]
    · exact ⟨_, _, h1⟩
  have hB3 := HB1.out.trans (hb3.mono (by omega))
  have HB3 := Lib.hid hB3
  have HKR : Hid (w3.ownsRow W1.heap.size 9 1 (.slice ga (keysP P).length gc) (keysP P).length ((keysP P).map Value.string)) := Lib.hid hro
  have HW3 : Hid (w3.ownsRow w1.heap.size 9 1 (.slice (some ⟨w1.heap.size, 0, none⟩) 0 0) 0 (([] : List ByteArray).map Value.string)) := Lib.hid (own_keptA HRO.out (fun k hk => by injection hk with hk; subst hk; exact hb3.block w1.heap.size (by omega)))
  have hkl : (keysP P).length ≤ 40 := by simpa [keysP] using M1.out.few
  have hz3 := hb3.size
  clear hro hb3 HRO HB1 CK hB3
  have hkk : (List.map Prod.fst P).length = (keysP P).length := rfl
  clear hkk
  obtain ⟨i0, hi, hz0, hz1, hz2⟩ := info_parts Tryd.infoStr
  have HL0 : Hid (LsR w1 w3 w3 ga w1.heap.size 0 0 []) := Lib.hid ⟨HW3.out, rfl, fun a ha => by
    subst ha
    have := HKR.out.lt a.block rfl
    omega, fun _ _ => rfl, HB3.out⟩
  obtain ⟨ks, hks⟩ : ∃ ks, ks = keysP P := ⟨_, rfl⟩
  rw [← hks] at HKR hkl ⊢
  have HKS := Lib.hid hks
  clear hks HW3
  go_wp2_with fail
  go_loopw [6, 19] (fun v iv wr => ∃ (k g c m : Nat), k ≤ ks.length ∧ m ≤ k ∧ iv = .int .i64 k ∧ v = .slice (some ⟨g, 0, none⟩) m c ∧ Hid (LsR w1 w3 wr ga g c m ((ks.take k).filter (neK s)))) (fun _ iv _ => ks.length - (intOf iv).toNat)
  case atStart => exact ⟨0, w1.heap.size, 0, 0, by omega, by omega, rfl, rfl, by simpa using HL0⟩
  case round =>
    obtain ⟨k, g, c, m, hk, hmk, rfl, rfl, HO⟩ := hrel
    by_cases hc : k < ks.length
    · obtain ⟨gk, rfl⟩ : ∃ gk, ga = some ⟨gk, 0, none⟩ := by
        obtain ⟨g2, c2, h2⟩ := row_pos HKR.out (by omega)
        injection h2 with h2
        exact ⟨g2, h2⟩
      have c0 : wr.cell? ⟨gk, k, none⟩ = some (.string ks[k]) := (World.cell?_of_block (w := w3) (a := ⟨gk, k, none⟩) (HO.out.keep ⟨gk, 0, none⟩ rfl)).trans (row_at HKR.out k hc hc)
      have HTF := Lib.hid (take_filter s ks k hc)
      generalize ks[k] = x at *
      by_cases hx : neK s x = true
      · rw [if_pos hx] at HTF
        have hxs : ¬ x = s := by
          rintro rfl
          simp [neK] at hx
        have hxl : (x.toList == s.toList) = false := (Lib.bytes_beq_false_iff x s).2 hxs
        clear hx
        go_wp2_with (at_builtin; refine wpList_append_own_at _ rfl (.tmp 26) (.tmp 28) 67 rfl w1.heap.size 9 i0 (.string ⟨#[]⟩) 1 16 Tryd.underlying67 hi hz0 hz1 hz2 rfl (by decide) (.slice (some ⟨g, 0, none⟩) m c) m _ rfl (HO.out.row.alloc _) ⟨wr.heap.size, 0, none⟩ 1 1 [.string x] (by simp [go_sem]) rfl ?c1 ?c2 ?c3 ?c4 ?c5 ?_)
        case c1 =>
          intro j u hj
          match j, hj with
          | 0, hj => simp at hj; subst hj; simp [Addr.add, go_sem]
          | n + 1, hj => simp at hj
        case c2 => simp [Value.oneCell']
        case c3 => unfold maxLen; omega
        case c4 => omega
        case c5 => simp; have := HO.out.below.size; omega
        intro v' w5 hown hgrow _ hat
        obtain ⟨g', cap', rfl⟩ := row_pos hown (by omega)
        have HN : Hid (LsR w1 w3 w5 (some ⟨gk, 0, none⟩) g' cap' (m + 1) ((ks.take (k + 1)).filter (neK s))) := Lib.hid (by
          rw [HTF.out]
          exact ls_push HO.out hown hgrow (hat.imp (fun h => by injection h) (fun h => by injection h with h; rw [World.size_alloc]; exact h)))
        clear hown hgrow hat HO c0 HTF
        go_wp2_with fail
        go_roundw
        case rel => exact ⟨k + 1, g', cap', m + 1, by omega, by omega, by go_num, rfl, HN⟩
        case measure => simp [intOf]; omega
      · rw [if_neg hx, List.append_nil] at HTF
        have hxs : x = s := by
          have : x.data.toList = s.data.toList := by simpa [neK] using hx
          exact WideShapes.bytes_inj this
        have HN : Hid (LsR w1 w3 wr (some ⟨gk, 0, none⟩) g c m ((ks.take (k + 1)).filter (neK s))) := Lib.hid (by rw [HTF.out]; exact HO.out)
        clear hx HTF HO
        subst hxs
        go_wp2_with fail
        exact ⟨⟨k + 1, g, c, m, by omega, by omega, by go_num, rfl, HN⟩, by simp [intOf]; omega⟩
    · have hkn : k = ks.length := by omega
      subst hkn
      rw [List.take_length] at HO
      go_wp2_with fail
      have hfl : ks.filter (neK s) = keysP (delP P s) := by rw [HKS.out, keysP_del]
      rw [hfl] at HO
      have hm : m = (delP P s).length := by rw [HO.out.len]; simp [keysP]
      have hql : (delP P s).length ≤ 40 := Nat.le_trans (List.length_filter_le _ _) M1.out.few
      have hqk := Lib.hid fun p (hp : p ∈ delP P s) => M1.out.key p (List.mem_filter.1 hp).1
      subst hm
      have AFr : Hid (AF (fun k => w.heap.size ≤ k ∧ k < w1.heap.size) wr b P) := Lib.hid ((M1.out.aa.af.mono fun k h1 h2 => ⟨h2, h1⟩).next HO.out.below)
      have AAr := Lib.hid (M1.out.aa.next HO.out.below)
      have hhp := hasP_del P s
      have HPP := Lib.hid (putP_del P s)
      have CD := Lib.hid (adel_any AFr.out s (by omega))
      clear hfl hc hmk hk hkl HKS HL0 hi hz0 hz1 hz2 hz3
      generalize delP P s = Q at *
      refine CD.out.mono ?_
      rintro e w6 ⟨rfl, hd⟩
      have AA6 := Lib.hid (AAr.out.delF (fun k hk => hk.1) hd)
      have AF6 := Lib.hid hd.1
      have R6 := Lib.hid (row_oth HO.out.row hd.2 (fun k hk => hk.2))
      clear hd CD AFr AAr HO HKR
      have CH := Lib.hid (AA6.out.has s (by omega))
      rw [hhp] at CH
      go_wp2_with fail
      refine CH.out.mono ?_
      rintro e w7 ⟨rfl, hb7⟩
      have AA7 := Lib.hid (AA6.out.next hb7)
      have AF7 := Lib.hid (AF6.out.next hb7)
      have R7 := Lib.hid (row_below R6.out hb7)
      clear hb7 AA6 AF6 R6 CH
      go_wp2_with fail
      refine AA7.out.len.mono ?_
      rintro e w8 ⟨rfl, hb8⟩
      have AA8 := Lib.hid (AA7.out.next hb8)
      have AF8 := Lib.hid (AF7.out.next hb8)
      have R8 := Lib.hid (row_below R7.out hb8)
      clear hb8 AA7 AF7 R7
      go_wp2_with fail
      refine (cint_any 1 _ (by omega)).mono ?_
      rintro e w9 ⟨rfl, hb9⟩
      have AA9 := Lib.hid (AA8.out.next hb9)
      have AF9 := Lib.hid (AF8.out.next hb9)
      have R9 := Lib.hid (row_below R8.out hb9)
      clear hb9 AA8 AF8 R8
      unfold cv
      go_wp2_with fail
      refine (aset_any AF9.out s (by omega) ⟨1, clampI 1000000, ⟨#[]⟩⟩ (by decide) (by omega)).mono ?_
      rintro e w10 ⟨rfl, hs⟩
      rw [HPP.out] at hs
      have AA10 := Lib.hid (AA9.out.seF (fun k hk => hk.1) hs)
      have R10 := Lib.hid (row_oth R9.out hs.2 (fun k hk => hk.2))
      clear hs AA9 AF9 R9
      go_wp2_with fail
      refine (AA10.out.keys (fun p hp => by
        rcases List.mem_append.1 hp with hp | hp
        · have := (hqk.out p hp).1; omega
        · simp at hp; subst hp; show s.size ≤ 1000000; omega)).mono ?_
      rintro e w11 ⟨v, rfl, hro, hb11⟩
      have hks : List.map Prod.fst (Q ++ [(s, (⟨1, clampI 1000000, ⟨#[]⟩⟩ : Ce))]) = keysP Q ++ [s] := by simp [keysP]
      have hln : (keysP Q ++ [s]).length = Q.length + 1 := by simp [keysP]
      rw [hks, hln] at hro
      obtain ⟨g2, c2, rfl⟩ := row_pos hro (by omega)
      have R11 := Lib.hid (row_below R10.out hb11)
      have BB := Lib.hid (AA10.out.bel.trans (hb11.mono AA10.out.bel.size))
      have N11 := Lib.hid hro
      have hcs : w11.cell? ⟨g2, Q.length, none⟩ = some (.string s) := by
        have h := row_at hro Q.length (by omega) (by omega)
        rw [h]
        simp [keysP]
      clear hro hb11 R10 AA10 hks hln
      go_wp2_with fail
      clear hcs
      have LK0 := Lib.hid (Below.refl w11.heap.size w11)
      go_loopw [67] (fun iv wr => ∃ k : Nat, k ≤ Q.length ∧ iv = .int .i64 k ∧ Hid (Below w11.heap.size w11 wr)) (fun iv _ => Q.length - (intOf iv).toNat)
      case atStart => exact ⟨0, by omega, rfl, LK0⟩
      case round =>
        obtain ⟨k, hk, rfl, LK⟩ := hrel
        by_cases hc : k < Q.length
        · have hql2 : (keysP Q).length = Q.length := by simp [keysP]
          have hc1 : (keysP Q ++ [s]).length = Q.length + 1 := by simp [hql2]
          have e1 := row_at (row_below R11.out LK.out) k hc (by omega)
          have e2 := row_at (row_below N11.out LK.out) k (by omega) (by omega)
          rw [List.getElem_append_left (by omega)] at e2
          generalize (keysP Q)[k] = x at *
          clear hql2 hc1
          go_wp2_with fail
          refine wp_region_held_drew (S := fun w' => w'.cell? ⟨g2, k, none⟩ = some (.string x) ∧ w'.cell? ⟨g, k, none⟩ = some (.string x)) (by kernel_rfl) (⟨e2, e1⟩) (fun hHeld => ?_)
          refine wpAnyH_take (i := 0) (oi := _) (v := ?_) rfl (by kernel_rfl) (by kernel_rfl) (by kernel_rfl) (fun _ _ _ h => h) (Or.inl ⟨by rfl, ?_⟩) (by assumption) ?_
          rotate_left
          · (intro w hSw; (try dsimp only at hSw); go_simp; try with_reducible rfl)
          try simp only [List.getElem_toArray, List.getElem_cons_zero, Act.put, List.setIfInBounds_toArray, List.set_cons_zero, List.set_cons_succ]
          refine wpAnyH_take (i := 1) (oi := _) (v := ?_) rfl (by kernel_rfl) (by kernel_rfl) (by kernel_rfl) (fun _ _ _ h => h) (Or.inl ⟨by rfl, ?_⟩) (by assumption) ?_
          rotate_left
          · (intro w hSw; (try dsimp only at hSw); go_simp; try with_reducible rfl)
          try simp only [List.getElem_toArray, List.getElem_cons_zero, List.getElem_cons_succ, Act.put, List.setIfInBounds_toArray, List.set_cons_zero, List.set_cons_succ]
          refine wpAnyH_take (i := 2) (oi := _) (v := ?_) rfl (by kernel_rfl) (by kernel_rfl) (by kernel_rfl) (fun _ _ _ h => h) (Or.inl ⟨by rfl, ?_⟩) (by assumption) ?_
          rotate_left
          · (intro w hSw; (try dsimp only at hSw); go_simp; (try rw [if_pos (by omega)]); (try simp only [Addr.add, Nat.mul_one, Nat.zero_add]); try with_reducible rfl)
          try simp only [List.getElem_toArray, List.getElem_cons_zero, List.getElem_cons_succ, Act.put, List.setIfInBounds_toArray, List.set_cons_zero, List.set_cons_succ]
          refine wpAnyH_take (i := 3) (oi := _) (v := ?_) rfl (by kernel_rfl) (by kernel_rfl) (by kernel_rfl) (fun _ _ _ h => h) (Or.inl ⟨by rfl, ?_⟩) (by assumption) ?_
          rotate_left
          · (intro w hSw; (try dsimp only at hSw); go_simp; try with_reducible rfl)
          try simp only [List.getElem_toArray, List.getElem_cons_zero, List.getElem_cons_succ, Act.put, List.setIfInBounds_toArray, List.set_cons_zero, List.set_cons_succ]
          refine wpAnyH_take (i := 4) (oi := _) (v := ?_) rfl (by kernel_rfl) (by kernel_rfl) (by kernel_rfl) (fun _ _ _ h => h) (Or.inl ⟨by rfl, ?_⟩) (by assumption) ?_
          rotate_left
          · (intro w hSw; (try dsimp only at hSw); go_simp; try with_reducible rfl)
          try simp only [List.getElem_toArray, List.getElem_cons_zero, List.getElem_cons_succ, Act.put, List.setIfInBounds_toArray, List.set_cons_zero, List.set_cons_succ]
          refine wpAnyH_take (i := 5) (oi := _) (v := ?_) rfl (by kernel_rfl) (by kernel_rfl) (by kernel_rfl) (fun _ _ _ h => h) (Or.inl ⟨by rfl, ?_⟩) (by assumption) ?_
          rotate_left
          · (intro w hSw; (try dsimp only at hSw); go_simp; try with_reducible rfl)
          try simp only [List.getElem_toArray, List.getElem_cons_zero, List.getElem_cons_succ, Act.put, List.setIfInBounds_toArray, List.set_cons_zero, List.set_cons_succ]
          refine wpAnyH_take (i := 6) (oi := _) (v := ?_) rfl (by kernel_rfl) (by kernel_rfl) (by kernel_rfl) (fun _ _ _ h => h) (Or.inl ⟨by rfl, ?_⟩) (by assumption) ?_
          rotate_left
          · (intro w hSw; (try dsimp only at hSw); go_simp; (try rw [if_pos (by omega)]); (try simp only [Addr.add, Nat.mul_one, Nat.zero_add]); try with_reducible rfl)
          try simp only [List.getElem_toArray, List.getElem_cons_zero, List.getElem_cons_succ, Act.put, List.setIfInBounds_toArray, List.set_cons_zero, List.set_cons_succ]
          refine wpAnyH_take (i := 7) (oi := _) (v := ?_) rfl (by kernel_rfl) (by kernel_rfl) (by kernel_rfl) (fun _ _ _ h => h) (Or.inl ⟨by rfl, ?_⟩) (by assumption) ?_
          rotate_left
          · (intro w hSw; (try dsimp only at hSw); go_simp; try with_reducible rfl)
          try simp only [List.getElem_toArray, List.getElem_cons_zero, List.getElem_cons_succ, Act.put, List.setIfInBounds_toArray, List.set_cons_zero, List.set_cons_succ]
          refine wpAnyH_take (i := 8) (oi := _) (v := ?_) rfl (by kernel_rfl) (by kernel_rfl) (by kernel_rfl) (fun _ _ _ h => h) (Or.inl ⟨by rfl, ?_⟩) (by assumption) ?_
          rotate_left
          · (intro w hSw; (try dsimp only at hSw); go_simp; try with_reducible rfl)
          try simp only [List.getElem_toArray, List.getElem_cons_zero, List.getElem_cons_succ, Act.put, List.setIfInBounds_toArray, List.set_cons_zero, List.set_cons_succ]
          refine wpAnyH_done (by kernel_rfl) ?_ _
          have LK2 := Lib.hid (LK.out.trans ((Below.refl w11.heap.size _).drew))
          clear hHeld e1 e2 LK
          go_wp2_with fail
          first | exact ⟨⟨k + 1, by omega, by go_num, LK2⟩, by simp [intOf]; omega⟩ | (go_roundw; (case rel => exact ⟨k + 1, by omega, by go_num, LK2⟩); (case measure => simp [intOf]; omega))
        · have hkn : k = Q.length := by omega
          subst hkn
          have BC := Lib.hid (BB.out.trans (LK.out.mono BB.out.size))
          go_wp2_with fail
          refine (aawake_any _ (fun w' h' => HT.out w' (BC.out.trans (h'.mono BC.out.size)))).mono ?_
          rintro e w12 ⟨rfl, hb12⟩
          have hbf := BC.out.trans (hb12.mono BC.out.size)
          go_wp2_with fail
          go_ret
          exact ⟨rfl, hbf⟩
end Go.Proofs.YtnjhpfhfiooklaaDoor
