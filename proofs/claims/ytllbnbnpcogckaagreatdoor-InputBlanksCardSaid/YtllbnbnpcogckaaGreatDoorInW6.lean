/-
  CONTRACTS of layer 16's records: sized, join, lay.
-/
import Derived.Test.YtllbnbnpcogckaaGreatDoorInW5
namespace Go.Proofs.YtllbnbnpcogckaaGreatDoor
open Go.RowKit

/-- So many fields, the first ones those that there are. -/
def szL (l : List Ce) (n : Nat) : List Ce := l.take n ++ (List.replicate n zc).drop l.length
theorem szL_len (l : List Ce) (n : Nat) : (szL l n).length = n := by unfold szL; rw [List.length_append, List.length_take, List.length_drop, List.length_replicate]; omega
def SzPost (l : List Ce) (n : Nat) (w : World) (e : Ending) (w' : World) : Prop :=
  ∃ g, e = .returned (.slice (some ⟨g, 0, none⟩) n n) ∧ w'.ownsRow w.heap.size 42 3 (.slice (some ⟨g, 0, none⟩) n n) n (ceRow (szL l n)) ∧ Below w.heap.size w w'
set_option maxHeartbeats 1000000 in
set_option maxRecDepth 100000 in
theorem sized_any {w : World} {b : Nat} {s : ByteArray} {l : List Ce} {v : Value} (h : Rec w b s l v) (n : Nat) (hn : n ≤ 500) :
    Calls Tryz.prog 29 #[.pointer (some ⟨b, 0, none⟩), .int .i64 (n : Int)] w (SzPost l n w) := by
  obtain ⟨p, c, rfl⟩ := h.form
  have hbl := h.lt
  have hc1 : w.cell? ⟨b, 1, none⟩ = some (.slice p l.length c) := block_cell h.blk
  have hmk := make_z n (by omega)
  have hni : 0 ≤ (n : Int) := by omega
  have HR := Lib.hid (h.row.alloc (.cells (zRow n) 42))
  have HZ := Lib.hid (own_z n (by omega) w (Nat.le_refl _))
  clear h
  go_enter Tryz.func29, Tryz.ntmps29
  obtain ⟨w2, hcp, ho2, hb2⟩ := copy3_any 33 33 3 Tryz.underlying33 w.heap.size n p c l (List.replicate n zc) (by simp) w.heap.size HZ.out HR.out (by kernel_rfl)
  have HW := Lib.hid (And.intro ho2 hb2)
  clear ho2 hb2 HZ HR
  go_wp2_with fail
  go_ret
  exact ⟨_, rfl, HW.out.1, ((Below.refl _ _).alloc (Nat.le_refl _) _).trans HW.out.2⟩

/-! join. -/
def ctx (c : Ce) : List UInt8 := (strC c.k c.n c.s).data.toList
def jk (l : List Ce) (ofs : List UInt8) : Nat → List UInt8
  | 0 => []
  | k + 1 => jk l ofs k ++ (if k = 0 then [] else ofs) ++ ctx (l.getD k zc)
theorem jk_succ (l : List Ce) (ofs : List UInt8) (k : Nat) : jk l ofs (k + 1) = jk l ofs k ++ (if k = 0 then [] else ofs) ++ ctx (l.getD k zc) := rfl
theorem jk_mono (l : List Ce) (ofs : List UInt8) (k : Nat) : ∀ d, (jk l ofs k).length ≤ (jk l ofs (k + d)).length
  | 0 => Nat.le_refl _
  | d + 1 => by
    have := jk_mono l ofs k d
    rw [show k + (d + 1) = (k + d) + 1 by omega, jk_succ]
    simp only [List.length_append]
    omega
theorem jk_le (l : List Ce) (ofs : List UInt8) {k m : Nat} (h : k ≤ m) : (jk l ofs k).length ≤ (jk l ofs m).length := by
  obtain ⟨d, rfl⟩ := Nat.exists_eq_add_of_le h
  exact jk_mono l ofs k d
def okc (c : Ce) : Prop := (c.k = 1 → OkN c.n) ∧ (strC c.k c.n c.s).size ≤ 4000
theorem Tryz.infoU8 : (Tryz.prog.info? 5).map (fun i => (i.zero, i.size, i.bytes)) = some (some (.int .u8 0), 1, 1) := by kernel_rfl
theorem row_str {w : World} {B k : Nat} {v : Value} {m : List UInt8} {t : ByteArray} (_hk : m.length = k) (h : w.ownsRow B 5 1 v (k + t.size) (Lib.byteCells m ++ Lib.strCells t)) : w.ownsRow B 5 1 v (k + t.size) (Lib.byteCells (m ++ t.data.toList)) := by
  rw [Lib.byteCells_append]; exact h
set_option maxRecDepth 100000 in
theorem row_conv {w : World} {B : Nat} {p : Option Addr} {cap : Nat} {l : List UInt8} (h : w.ownsRow B 5 1 (.slice p l.length cap) l.length (Lib.byteCells l)) :
    (convert 31 9 (.slice p l.length cap)).run Tryz.prog w = .ok (.string ⟨l.toArray⟩) w := by
  rcases h.2 with ⟨h1, h0⟩ | ⟨g, cap', cur, h1, _, hg, _, _, _, htk⟩
  · obtain rfl : l = [] := List.eq_nil_of_length_eq_zero h0
    injection h1 with h1 _ h3
    subst h1 h3
    exact Lib.run_convert_nil_bytes w _ _ 5 _ Tryz.underlying31 Tryz.underlying5 Tryz.underlying9
  · injection h1 with h1 _ h3
    subst h1 h3
    exact run_convert_bytes_back (P := Tryz.prog) w 31 9 5 _ cap l Tryz.underlying31 Tryz.underlying5 Tryz.underlying9 (Lib.bytes_of_row hg (by simpa using htk))
theorem own_form {w : World} {B n : Nat} {e : TypeId} {k : Nat} {v : Value} {xs : List Value} (h : w.ownsRow B e k v n xs) : ∃ p c, v = .slice p n c := by
  rcases h.2 with ⟨rfl, h0⟩ | ⟨g, cap, cur, rfl, _⟩
  · exact ⟨none, 0, by rw [h0]⟩
  · exact ⟨_, _, rfl⟩
theorem ce_cells {w : World} {B g c n : Nat} {l : List Ce} (h : w.ownsRow B 42 3 (.slice (some ⟨g, 0, none⟩) n c) n (ceRow l)) (k : Nat) (hk : k < n) (hl : k < l.length) :
    w.cell? ⟨g, k * 3, none⟩ = some (.int .i64 l[k].k) ∧ w.cell? ⟨g, k * 3 + 1, none⟩ = some (.int .i64 l[k].n) ∧ w.cell? ⟨g, k * 3 + 2, none⟩ = some (.string l[k].s) := by
  have q : ∀ j, j < 3 → w.cell? ⟨g, k * 3 + j, none⟩ = l[k].vals[j]? := fun j hj => by
    rw [h.cellAt (k * 3 + j) (by omega), ceRow_get _ k j hl hj]
  exact ⟨q 0 (by omega), q 1 (by omega), q 2 (by omega)⟩
/-- What a round of join's loop finds. -/
structure JnR (w : World) (fv : Value) (l : List Ce) (o : List UInt8) (v : Value) (m : Nat) (wr : World) : Prop where
  len : o.length = m
  row : wr.ownsRow w.heap.size 5 1 v m (Lib.byteCells o)
  fld : wr.ownsRow 0 42 3 fv l.length (ceRow l)
  below : Below w.heap.size w wr
theorem JnR.next {w : World} {fv : Value} {l : List Ce} {o : List UInt8} {v : Value} {m : Nat} {wr w1 : World} (h : JnR w fv l o v m wr) (hb : Below wr.heap.size wr w1) : JnR w fv l o v m w1 :=
  ⟨h.len, own_next h.row hb, own_next h.fld hb, h.below.trans (hb.mono h.below.size)⟩
theorem JnR.put {w : World} {fv : Value} {l : List Ce} {o : List UInt8} {v v' : Value} {m : Nat} {wr w1 : World} (h : JnR w fv l o v m wr) (hf : ∀ g, fv.ownBlock = some g → g < w.heap.size) (t : ByteArray)
    (ho : w1.ownsRow w.heap.size 5 1 v' (m + t.size) (Lib.byteCells o ++ Lib.strCells t)) (hg : wr.grownBy w1 v.ownBlock) : JnR w fv l (o ++ t.data.toList) v' (m + t.size) w1 :=
  have hb := h.below.grown hg h.below.size (fun j hj => (h.row.lt j hj).1)
  ⟨by rw [List.length_append, h.len, ba_sz], row_str h.len ho, own_kept h.fld fun g hg' => hg.block g (Nat.lt_of_lt_of_le (hf g hg') h.below.size) (fun e => by have := (h.row.lt g e.symm).1; have := hf g hg'; omega), hb⟩
set_option maxHeartbeats 4000000 in
set_option maxRecDepth 100000 in
theorem join_any (p : Option Addr) (c : Nat) (l : List Ce) (ofs T : ByteArray) (w : World) (hr : w.ownsRow 0 42 3 (.slice p l.length c) l.length (ceRow l)) (hl : l.length ≤ 500) (hok : ∀ c ∈ l, okc c) (hT : T.data.toList = jk l ofs.data.toList l.length) (hTs : T.size ≤ 4000) (_hos : ofs.size ≤ 4000) (G : Gi w) :
    Calls Tryz.prog 43 #[.slice p l.length c, .string ofs] w fun e w' => e = .returned (.tuple #[.string T, .bool true]) ∧ Below w.heap.size w w' := by
  obtain ⟨i0, hi, hz0, hz1, hz2⟩ := info_parts Tryz.infoU8
  have HF := Lib.hid fun g hg => (hr.lt g hg).2
  have HI : Hid (JnR w (.slice p l.length c) l [] (.slice none 0 0) 0 w) := Lib.hid ⟨rfl, World.ownsRow_nil w _ _ _, hr, Below.refl _ _⟩
  have HOK := Lib.hid hok
  have HT := Lib.hid hT
  have HG := Lib.hid G
  have hTl : (jk l ofs.data.toList l.length).length ≤ 4000 := by rw [← hT, ba_sz]; exact hTs
  clear hr hok hT G
  go_enter Tryz.func43, Tryz.ntmps43
  go_wp2_with fail
  go_loopw [6, 11] (fun ov iv wr => ∃ (k m : Nat) (p' : Option Addr) (c' : Nat), k ≤ l.length ∧ m ≤ 4000 ∧ ov = .slice p' m c' ∧ iv = .int .i64 (k : Int) ∧ Hid (JnR w (.slice p l.length c) l (jk l ofs.data.toList k) (.slice p' m c') m wr)) (fun _ iv _ => l.length - (intOf iv).toNat)
  case atStart => exact ⟨0, 0, none, 0, Nat.zero_le _, Nat.zero_le _, rfl, rfl, HI⟩
  case round =>
    obtain ⟨k, m, p', c', hk, hm, rfl, rfl, HJ⟩ := hrel
    clear HI
    by_cases hlt : k < l.length
    · have hki : (k : Int) < (l.length : Int) := by omega
      obtain ⟨g, rfl⟩ : ∃ g, p = some ⟨g, 0, none⟩ := by
        rcases HJ.out.fld.2 with ⟨h1, h0⟩ | ⟨g, cap, cur, h1, _⟩
        · omega
        · injection h1 with h1 _ _; exact ⟨g, h1⟩
      obtain ⟨c0, c1, c2⟩ := ce_cells HJ.out.fld k hlt hlt
      have hokk := HOK.out _ (List.getElem_mem hlt)
      have hjk := jk_succ l ofs.data.toList k
      rw [List.getD_eq_getElem?_getD, List.getElem?_eq_getElem hlt] at hjk
      simp only [Option.getD_some] at hjk
      have hle := jk_le l ofs.data.toList (show k + 1 ≤ l.length by omega)
      have CS := Lib.hid fun W (G : Gl W) => cstr_any l[k].k l[k].n l[k].s W hokk.1 (by have := hokk.2; omega) G
      unfold cv at CS
      have hcx : ctx l[k] = (strC l[k].k l[k].n l[k].s).data.toList := rfl
      obtain ⟨S, hS⟩ : ∃ S, strC l[k].k l[k].n l[k].s = S := ⟨_, rfl⟩
      have hSs : S.size ≤ 4000 := by rw [← hS]; exact hokk.2
      rw [hS] at CS hcx
      rw [hcx] at hjk
      have hml := HJ.out.len
      have hmS : m + (if k = 0 then 0 else ofs.size) + S.size ≤ 4000 := by
        rw [hjk] at hle
        simp only [List.length_append, ba_sz] at hle
        split at hle <;> rename_i hk0
        · rw [if_pos hk0]; simp at hle; omega
        · rw [if_neg hk0]; rw [ba_sz] at hle; omega
      have HK := Lib.hid hjk
      clear hokk hjk hle hcx
      generalize l[k].k = ek at *
      generalize l[k].n = en at *
      generalize l[k].s = es at *
      clear hS
      have hbl := HJ.out.below.size
      by_cases hk0 : k = 0
      · subst hk0
        have hgk : ¬ (0 : Int) < ((0 : Nat) : Int) := by omega
        rw [if_pos rfl] at hmS
        have HK' : Hid (jk l ofs.data.toList (0 + 1) = jk l ofs.data.toList 0 ++ S.data.toList) := Lib.hid (by rw [HK.out, if_pos rfl, List.append_nil])
        clear HK
        go_wp2_with fail
        refine (CS.out _ ((HG.out.next HJ.out.below).gl.next ((Below.refl _ _).alloc (Nat.le_refl _) _))).mono ?_
        rintro e w3 ⟨rfl, hb3⟩
        have HJ3 := Lib.hid (HJ.out.next (below_new hb3))
        clear hb3 HJ c0 c1 c2
        go_wp2_with (at_builtin; refine Lib.wpList_append_own_string _ rfl (.tmp 21) (.tmp 23) 31 9 rfl w.heap.size 5 i0 Tryz.underlying31 Tryz.underlying9 hi hz0 hz1 hz2 (.slice p' m c') m (Lib.byteCells (jk l ofs.data.toList 0)) rfl HJ3.out.row S rfl ?d1 ?d2 ?d3 ?_)
        case d1 => unfold maxLen; omega
        case d2 => omega
        case d3 => exact HJ3.out.below.size
        intro v4 w4 hown4 hgrow4 _
        obtain ⟨p4, c4, rfl⟩ := own_form hown4
        have HN : Hid (JnR w (.slice (some ⟨g, 0, none⟩) l.length c) l (jk l ofs.data.toList (0 + 1)) (.slice p4 (m + S.size) c4) (m + S.size) w4) := Lib.hid (by rw [HK'.out]; exact HJ3.out.put HF.out S hown4 hgrow4)
        have h4 : ¬ (4000 : Int) < (m : Int) + (S.size : Int) := by omega
        clear hown4 hgrow4 HJ3 HK' CS
        go_wp2_with fail
        go_roundw
        case rel => exact ⟨0 + 1, m + S.size, p4, c4, by omega, by omega, by go_num, by go_num, HN⟩
        case measure => simp [intOf]; omega
      · have hgk : (0 : Int) < (k : Int) := by omega
        rw [if_neg hk0] at hmS
        have HK' : Hid (jk l ofs.data.toList (k + 1) = jk l ofs.data.toList k ++ ofs.data.toList ++ S.data.toList) := Lib.hid (by rw [HK.out, if_neg hk0])
        clear HK
        have hba : Below wr.heap.size wr (wr.alloc (.cells #[.int .i64 ek, .int .i64 en, .string es] 42)) := (Below.refl _ _).alloc (Nat.le_refl _) _
        have HA := Lib.hid (HJ.out.next hba)
        clear hba
        go_wp2_with (at_builtin; refine Lib.wpList_append_own_string _ rfl (.tmp 18) (.tmp 19) 31 9 rfl w.heap.size 5 i0 Tryz.underlying31 Tryz.underlying9 hi hz0 hz1 hz2 (.slice p' m c') m (Lib.byteCells (jk l ofs.data.toList k)) rfl HA.out.row ofs rfl ?d1 ?d2 ?d3 ?_)
        case d1 => unfold maxLen; omega
        case d2 => omega
        case d3 => exact HA.out.below.size
        intro v5 w5 hown5 hgrow5 _
        obtain ⟨p5, c5, rfl⟩ := own_form hown5
        have hkb := hgrow5.block wr.heap.size (by simp) (fun e => by have := (HJ.out.row.lt _ e.symm).2; omega)
        have x0 : w5.cell? ⟨wr.heap.size, 0, none⟩ = some (.int .i64 ek) := (World.cell?_of_block hkb).trans (by simp [go_sem])
        have x1 : w5.cell? ⟨wr.heap.size, 1, none⟩ = some (.int .i64 en) := (World.cell?_of_block hkb).trans (by simp [go_sem])
        have x2 : w5.cell? ⟨wr.heap.size, 2, none⟩ = some (.string es) := (World.cell?_of_block hkb).trans (by simp [go_sem])
        have HJ5 : Hid (JnR w (.slice (some ⟨g, 0, none⟩) l.length c) l (jk l ofs.data.toList k ++ ofs.data.toList) (.slice p5 (m + ofs.size) c5) (m + ofs.size) w5) := Lib.hid (HA.out.put HF.out ofs hown5 hgrow5)
        clear hown5 hgrow5 HA HJ hkb c0 c1 c2
        go_wp2_with fail
        refine (CS.out _ (HG.out.next HJ5.out.below).gl).mono ?_
        rintro e w3 ⟨rfl, hb3⟩
        have HJ3 := Lib.hid (HJ5.out.next hb3)
        clear hb3 HJ5 x0 x1 x2
        go_wp2_with (at_builtin; refine Lib.wpList_append_own_string _ rfl (.tmp 21) (.tmp 23) 31 9 rfl w.heap.size 5 i0 Tryz.underlying31 Tryz.underlying9 hi hz0 hz1 hz2 (.slice p5 (m + ofs.size) c5) (m + ofs.size) (Lib.byteCells (jk l ofs.data.toList k ++ ofs.data.toList)) rfl HJ3.out.row S rfl ?e1 ?e2 ?e3 ?_)
        case e1 => unfold maxLen; omega
        case e2 => omega
        case e3 => exact HJ3.out.below.size
        intro v4 w4 hown4 hgrow4 _
        obtain ⟨p4, c4, rfl⟩ := own_form hown4
        have HN : Hid (JnR w (.slice (some ⟨g, 0, none⟩) l.length c) l (jk l ofs.data.toList (k + 1)) (.slice p4 (m + ofs.size + S.size) c4) (m + ofs.size + S.size) w4) := Lib.hid (by rw [HK'.out]; exact HJ3.out.put HF.out S hown4 hgrow4)
        have h4 : ¬ (4000 : Int) < (m : Int) + (ofs.size : Int) + (S.size : Int) := by omega
        clear hown4 hgrow4 HJ3 HK' CS
        go_wp2_with fail
        go_roundw
        case rel => exact ⟨k + 1, m + ofs.size + S.size, p4, c4, by omega, by omega, by go_num, by go_num, HN⟩
        case measure => simp [intOf]; omega
    · have hki : ¬ (k : Int) < (l.length : Int) := by omega
      have hkn : k = l.length := by omega
      subst hkn
      have hlen := HJ.out.len
      have hrow := HJ.out.row
      subst hlen
      have hcv := row_conv hrow
      have he : (⟨(jk l ofs.data.toList l.length).toArray⟩ : ByteArray) = T := by rw [← HT.out]
      rw [he] at hcv
      have HB := Lib.hid HJ.out.below
      clear hrow HJ he
      go_wp2_with fail
      go_ret2
      exact ⟨rfl, HB.out⟩
end Go.Proofs.YtllbnbnpcogckaaGreatDoor
