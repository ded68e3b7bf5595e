/-
  CONTRACTS of names and of Crash.
-/
import Derived.Test.YtjlkdglbnfifeaaGreatDoorDkWC
import Derived.RangeFuncBound
import Derived.CallsIn
namespace Go.Proofs.YtjlkdglbnfifeaaGreatDoor
open Go.RowKit Go.Maps Go.Sort

variable {Fp : Nat → Prop} {w : World} {Bd mn ms : Nat} {vs : Nat → Value × Value} {d : DS} {m : Nat}
theorem strKeys_dat (l : Dir) : strKeys (dat l) = l.map (·.1) := by
  simp only [strKeys, dat, List.map_map]
  apply List.map_congr_left
  intro p _
  rfl
set_option maxHeartbeats 1000000 in
theorem names_any (h : DV Fp w Bd mn ms vs d m) : Calls Tryz.prog 24 #[.pointer (some ⟨Bd, 0, none⟩)] w fun e w' => ∃ v, e = .returned v ∧ w'.ownsRow w.heap.size 9 1 v d.now.length ((d.now.map (·.1)).map encStr) ∧ Below w.heap.size w w' := by
  have c0 := h.c0
  have hl := h.lenN
  have hfew := h.few
  have hs := h.srtN
  have hown := h.mapN
  clear h
  refine (callsIn_wide (n := 6)).1 ?_
  have hfK : Fence.wide.fn 52 := trivial
  have hfS : Fence.wide.fn 51 := trivial
  refine callsIn_of_wp Tryz.func24 rfl trivial ?_ rfl
  simp only [Tryz.ntmps24, List.size_toArray, List.length_cons, List.length_nil, Nat.reduceAdd, Nat.reduceSub, Array.replicate_succ, Array.replicate_zero, List.push_toArray, List.append_toArray, List.nil_append, List.cons_append]
  gi_wp2_with (first
    | (gi_at_call 52; refine (Tryz.maps_Keys_52 _ _).mono ?_; rintro e w' ⟨rfl, rfl⟩)
    | (gi_at_call 51; refine (Tryz.slices_Sorted_keys_51_52 mn m (dat d.now) ptrE w hown (by rw [dat_size]; unfold maxLen; omega) (by rw [dat_size]; omega)).mono ?_; rintro e w' ⟨v, ss, rfl, hS, hrow, hnil, hb⟩))
  go_ret
  rw [strKeys_dat] at hS
  rw [sorted_names hs hS, show ss.length = d.now.length by rw [hS.length_eq]; simp] at hrow
  exact ⟨v, rfl, ownsRow_base_a hrow (by simp), ((Below.refl _ w).alloc (Nat.le_refl _) _).trans (hb.mono (by simp))⟩

/-- Blocks below a that a disk may write, and all from b on. -/
def nar (Fp : Nat → Prop) (a b : Nat) : Nat → Prop := fun j => (Fp j ∧ j < a) ∨ b ≤ j
theorem DV.nar (h : DV Fp w Bd mn ms vs d m) (b : Nat) : DV (nar Fp w.heap.size b) w Bd mn ms vs d m := h.wider (fun _ hj hf => .inl ⟨hf, hj⟩)
theorem nar_up {a b : Nat} {w : World} (hb : b ≤ w.heap.size) : Up (nar Fp a b) w := fun _ hk => .inr (Nat.le_trans hb hk)
theorem nar_of {a b j : Nat} (hF : ∀ k, a ≤ k → Fp k) (hab : a ≤ b) (h : nar Fp a b j) : Fp j := by
  rcases h with h | h
  · exact h.1
  · exact hF j (Nat.le_trans hab h)
theorem Oth.wide {a b : Nat} {w w' : World} (h : Oth (nar Fp a b) w w') (hF : ∀ k, a ≤ k → Fp k) (hab : a ≤ b) : Oth Fp w w' :=
  ⟨h.os, h.tape, h.output, h.size, fun k hk hn => h.block k hk (fun e => hn (nar_of hF hab e))⟩

/-- Whole numbers that a call is handed, in memory that the disk doesn't write. -/
def KeepsAt (Fp : Nat → Prop) (w : World) (v : Value) (ks : List Int) : Prop :=
  ∃ q c, v = .slice q ks.length c ∧ ks.length ≤ 9223372036854775807 ∧ (∀ x ∈ ks, x ≤ 9223372036854775807) ∧ ∀ i (hi : i < ks.length), ∃ a, q = some a ∧ ¬ Fp a.block ∧ w.cell? (a.add i) = some (.int .i64 ks[i])
theorem add_block (a : Addr) (i : Nat) : (a.add i).block = a.block := by unfold Addr.add; split <;> rfl
def kf (ks : List Int) (i : Nat) : Nat := (max (ks.getD i 0) 0).toNat
def crTo (d : DS) (ks : List Int) : Nat → DS
  | 0 => d
  | i + 1 => match d.now[i]? with
    | some p => crF (crTo d ks i) p.2 (kf ks i)
    | none => crTo d ks i
theorem crTo_now (d : DS) (ks : List Int) : ∀ i, (crTo d ks i).now = d.now ∧ (crTo d ks i).safe = d.safe
  | 0 => ⟨rfl, rfl⟩
  | i + 1 => by
    unfold crTo
    split
    · exact crTo_now d ks i
    · exact crTo_now d ks i
theorem crTo_has (d : DS) (ks : List Int) (i : Nat) : (crTo d ks i).Has = d.Has := by
  funext b
  unfold DS.Has
  rw [(crTo_now d ks i).1, (crTo_now d ks i).2]
def crashD (d : DS) (ks : List Int) (names : Bool) : DS :=
  let d1 : DS := if names then d else { d with now := d.safe }
  let d2 := crTo d1 ks d1.now.length
  { d2 with safe := d2.now, dead := false, left := -1 }
/-- The end of Crash: the safe names are a copy, the disk lives, isn't armed. -/
theorem crash_end {Fq : Nat → Prop} {mx : Nat} (h : DV Fq w Bd mx ms vs d m) (hF : Up Fq w) :
    Calls Tryz.prog 26 #[.map (some mx)] w fun e w8 => e = .returned (.map (some w.heap.size)) ∧ w8.cell? ⟨Bd, 1, none⟩ = some (.map (some ms)) ∧ w8.frozen? ⟨Bd, 1, none⟩ = false ∧ w8.cell? ⟨Bd, 4, none⟩ = some (.bool d.dead) ∧ w8.frozen? ⟨Bd, 4, none⟩ = false ∧ w8.cell? ⟨Bd, 3, none⟩ = some (.int .i64 d.left) ∧ w8.frozen? ⟨Bd, 3, none⟩ = false ∧
      Hid (OpPost Fq w Bd { d with safe := d.now, dead := false, left := -1 } m (((w8.setCell ⟨Bd, 1, none⟩ (.map (some w.heap.size))).setCell ⟨Bd, 4, none⟩ (.bool false)).setCell ⟨Bd, 3, none⟩ (.int .i64 (-1)))) := by
  refine (Tryz.maps_Clone 9 ptrE mx m (dat d.now) w h.mapN).mono ?_
  rintro e w8 ⟨rfl, ho, ho', hb8⟩
  have h8 := h.below hb8
  have hn : mx ≠ w.heap.size := fun e => absurd h.mapN.lt (by omega)
  have hS := h8.setS ho (hF _ (Nat.le_refl _)) h8.srtN (fun b ⟨y, hy⟩ => ⟨y, .inl hy⟩)
  have h4 := hS.setB 4 (.bool false) (q := d.quota) (l := d.left) (x := false) hS.quo hS.lft rfl
  have h3 := h4.setB 3 (.int .i64 (-1)) (q := d.quota) (l := -1) (x := false) hS.quo (by omega) rfl
  refine ⟨rfl, h8.c1, h8.fz 1, h8.c4, h8.fz 4, h8.c3, h8.fz 3, Lib.hid ⟨⟨_, _, _, hn, h3⟩, ?_⟩⟩
  exact (((Oth.of_below hb8).setCell (p := ⟨Bd, 1, none⟩) h.fB _).setCell (p := ⟨Bd, 4, none⟩) h.fB _).setCell (p := ⟨Bd, 3, none⟩) h.fB _
set_option maxHeartbeats 8000000 in
set_option maxRecDepth 100000 in
theorem crash_true (h : DV Fp w Bd mn ms vs d m) (hF : Up Fp w) (v : Value) (ks : List Int) (hk : KeepsAt Fp w v ks) :
    Calls Tryz.prog 12 #[.pointer (some ⟨Bd, 0, none⟩), v, .bool true] w fun e w' => e = .returned (.tuple #[]) ∧ OpPost Fp w Bd (crashD d ks true) m w' := by
  obtain ⟨q, kc, rfl, hkl, hkm, hkc⟩ := hk
  have hltB := h.ltB
  have h1 : DV Fp w Bd mn ms vs d m := h
  have hO1 : Oth Fp w w := Oth.refl Fp w
  have hF1 := hF
  have NC := Lib.hid (names_any h1)
  have hlen := h1.lenN
  have hfew := h1.few
  have hcD : Hid (crashD d ks true = { (crTo d ks d.now.length) with safe := (crTo d ks d.now.length).now, dead := false, left := -1 }) := Lib.hid rfl
  have H1 := Lib.hid h1
  have HO1 := Lib.hid hO1
  have HF1 := Lib.hid hF1
  have hsz1 := hO1.size
  clear h h1 hF hO1 hF1
  go_enter Tryz.func12, Tryz.ntmps12
  go_wp2_with fail
  refine NC.out.mono ?_
  rintro e w1 ⟨nv, rfl, hrow, hb1⟩
  have hbase : ∃ (np : Option Addr) (nc : Nat), nv = .slice np d.now.length nc ∧ d.now.length ≤ nc ∧ (∀ i (hi : i < d.now.length), ∃ a, np = some ⟨a, 0, none⟩ ∧ w.heap.size ≤ a ∧ a < w1.heap.size ∧ w1.cell? ⟨a, i, none⟩ = some (.string ⟨(d.now[i]).1.toArray⟩)) := by
    rcases hrow.2 with ⟨rfl, hz⟩ | ⟨g, cap, cur, rfl, hbg, hg, r1, r2, r3, r4⟩
    · exact ⟨none, 0, by rw [hz], by omega, fun i hi => by omega⟩
    · refine ⟨_, cap, rfl, r1, fun i hi => ⟨g, rfl, hbg, (Array.getElem?_eq_some_iff.1 hg).1, ?_⟩⟩
      rw [block_cell hg]
      have e1 : cur[i]? = (cur.toList.take (d.now.length * 1))[i]? := by
        rw [List.getElem?_take, if_pos (by omega)]; simp
      rw [e1, r4]
      simp [encStr, hi]
  obtain ⟨np, nc, rfl, hnc0, hnc⟩ := hbase
  have hup : ∀ k, w.heap.size ≤ k → Fp k := HF1.out
  have hab := hb1.size
  have hDq := (H1.out.nar w1.heap.size).below hb1
  have hrel0 : Hid (∃ vs', DV (nar Fp w.heap.size w1.heap.size) w1 Bd mn ms vs' (crTo d ks 0) m ∧ Oth (nar Fp w.heap.size w1.heap.size) w1 w1) := Lib.hid ⟨_, hDq, Oth.refl _ _⟩
  -- in each round's world: the name, the number of bytes to keep
  have HN : Hid (∀ wr, Oth (nar Fp w.heap.size w1.heap.size) w1 wr → ∀ i (hi : i < d.now.length), ∃ a, np = some ⟨a, 0, none⟩ ∧ wr.cell? ⟨a, i, none⟩ = some (.string ⟨(d.now[i]).1.toArray⟩)) := by
    refine Lib.hid ?_
    intro wr hO i hi
    obtain ⟨a, e, h1, h2, h3⟩ := hnc i hi
    refine ⟨a, e, hO.cell (p := ⟨a, i, none⟩) ?_ h3⟩
    rintro (h | h)
    · have : a < w.heap.size := h.2
      omega
    · have : w1.heap.size ≤ a := h
      omega
  have HKC : Hid (∀ wr, Oth (nar Fp w.heap.size w1.heap.size) w1 wr → ∀ i (hi : i < ks.length), ∃ a, q = some a ∧ wr.cell? (a.add i) = some (.int .i64 ks[i])) := by
    refine Lib.hid ?_
    intro wr hO i hi
    obtain ⟨a, e, hnf, hc⟩ := hkc i hi
    have hcW : w.cell? (a.add i) = some (.int .i64 ks[i]) := HO1.out.cell (p := a.add i) (by rw [add_block]; exact hnf) hc
    have hlt := World.block_lt_of_cell? _ _ hcW
    rw [add_block] at hlt
    refine ⟨a, e, hO.cell (p := a.add i) ?_ ((hb1.cell (p := a.add i) (by rw [add_block]; exact hlt)).trans hcW)⟩
    rw [add_block]
    rintro (h | h)
    · exact hnf h.1
    · omega
  have HR : Hid (∀ wr i (hi : i < d.now.length) vs', DV (nar Fp w.heap.size w1.heap.size) wr Bd mn ms vs' (crTo d ks i) m →
      (Instr.lookup 48 (.map (some mn)) (.string ⟨(d.now[i]).1.toArray⟩) false).run Tryz.prog wr = .ok (.pointer (some ⟨(d.now[i]).2, 0, none⟩)) wr ∧
      Calls Tryz.prog 25 #[.pointer (some ⟨(d.now[i]).2, 0, none⟩), .int .i64 (kf ks i : Nat)] wr fun e w' => e = .returned (.tuple #[]) ∧ FcPost (nar Fp w.heap.size w1.heap.size) wr Bd mn ms (crTo d ks (i + 1)) m w') := by
    refine Lib.hid ?_
    intro wr i hi vs' hD
    have hmem : d.now[i] ∈ d.now := List.getElem_mem hi
    have hnow := (crTo_now d ks i).1
    have hg : getD (crTo d ks i).now (d.now[i]).1 = some (d.now[i]).2 := by
      rw [hnow]; exact getD_of_mem H1.out.srtN hmem
    have hsl : (⟨(d.now[i]).1.toArray⟩ : ByteArray).size ≤ maxLen := by
      have := strKeys_le H1.out.mapN Tryz.underlying9 (d.now[i]).1 (by rw [strKeys_dat]; exact List.mem_map.2 ⟨_, hmem, rfl⟩)
      exact this
    have lk := hD.lookM ⟨(d.now[i]).1.toArray⟩ hsl
    rw [show (⟨(d.now[i]).1.toArray⟩ : ByteArray).data.toList = (d.now[i]).1 by simp, hg] at lk
    refine ⟨lk, ?_⟩
    have hkb : kf ks i ≤ 9223372036854775807 := by
      unfold kf
      by_cases hx : i < ks.length
      · have := hkm ks[i] (List.getElem_mem hx)
        rw [List.getD_eq_getElem?_getD, List.getElem?_eq_getElem hx]
        simp only [Option.getD_some]
        omega
      · rw [List.getD_eq_getElem?_getD, List.getElem?_eq_none (by omega)]
        simp
    have FC := fcrash_any hD (hD.has_of_get hg) (kf ks i) hkb
    have e : crTo d ks (i + 1) = crF (crTo d ks i) (d.now[i]).2 (kf ks i) := by
      conv => lhs; unfold crTo
      rw [List.getElem?_eq_getElem hi]
    rw [e]
    exact FC
  have HE : Hid (∀ wr, Oth (nar Fp w.heap.size w1.heap.size) w1 wr → ∀ d' w', OpPost (nar Fp w.heap.size w1.heap.size) wr Bd d' m w' → OpPost Fp w Bd d' m w') := by
    refine Lib.hid ?_
    rintro wr hO d' w' ⟨⟨a1, a2, a3, hne, hD⟩, hO2⟩
    exact ⟨⟨a1, a2, a3, hne, hD.wider (fun j _ hj => nar_of hup hab hj)⟩, ((HO1.out.trans (Oth.of_below hb1)).trans (hO.wide hup hab)).trans (hO2.wide hup hab)⟩
  clear hb1 hrow NC hDq hnc hkc hup hkm
  generalize hFq : nar Fp w.heap.size w1.heap.size = Fq at *
  have HUp : Hid (∀ wr, Oth Fq w1 wr → Up Fq wr) := Lib.hid (fun wr hO => by rw [← hFq]; exact nar_up hO.size)
  clear hFq
  go_wp2_with fail
  go_loopw [21] (fun iv wr => ∃ i : Nat, i ≤ d.now.length ∧ iv = .int .i64 i ∧ Hid (∃ vs', DV Fq wr Bd mn ms vs' (crTo d ks i) m ∧ Oth Fq w1 wr)) (fun iv _ => d.now.length - (intOf iv).toNat)
  case atStart => exact ⟨0, Nat.zero_le _, rfl, hrel0⟩
  case round =>
    obtain ⟨i, hi, rfl, HK⟩ := hrel
    obtain ⟨vs', hD, hO⟩ := HK.out
    have c0 := hD.c0
    by_cases hlt : i < d.now.length
    · obtain ⟨a, rfl, hcn⟩ := HN.out wr hO i hlt
      obtain ⟨lk, FC⟩ := HR.out wr i hlt vs' hD
      by_cases hik : i < ks.length
      · obtain ⟨a2, rfl, hck⟩ := HKC.out wr hO i hik
        have hmax : max ks[i] 0 = ((kf ks i : Nat) : Int) := by
          unfold kf
          rw [List.getD_eq_getElem?_getD, List.getElem?_eq_getElem hik]
          simp only [Option.getD_some]
          omega
        generalize ks[i] = kv at *
        generalize d.now[i] = nb at *
        generalize kf ks i = kfi at *
        clear HK HN HR HKC HE HUp hD hrel0 H1 HO1 HF1
        go_wp2_with fail
        refine FC.mono ?_
        rintro e w9 ⟨rfl, H9⟩
        have HN9 : Hid (∃ vs', DV Fq w9 Bd mn ms vs' (crTo d ks (i + 1)) m ∧ Oth Fq w1 w9) := Lib.hid ⟨H9.1.choose, H9.1.choose_spec, hO.trans H9.2⟩
        clear H9 FC
        go_wp2
        go_roundw
        case rel => exact ⟨i + 1, by omega, by go_num, HN9⟩
        case measure => simp [intOf]; omega
      · have hk0 : kf ks i = 0 := by
          unfold kf
          rw [List.getD_eq_getElem?_getD, List.getElem?_eq_none (by omega)]
          simp
        rw [hk0] at FC
        generalize d.now[i] = nb at *
        clear HK HN HR HKC HE HUp hD hrel0 H1 HO1 HF1
        go_wp2_with fail
        refine FC.mono ?_
        rintro e w9 ⟨rfl, H9⟩
        have HN9 : Hid (∃ vs', DV Fq w9 Bd mn ms vs' (crTo d ks (i + 1)) m ∧ Oth Fq w1 w9) := Lib.hid ⟨H9.1.choose, H9.1.choose_spec, hO.trans H9.2⟩
        clear H9 FC
        go_wp2
        go_roundw
        case rel => exact ⟨i + 1, by omega, by go_num, HN9⟩
        case measure => simp [intOf]; omega
    · obtain rfl : i = d.now.length := by omega
      have CE := crash_end hD (HUp.out wr hO)
      have HEE := Lib.hid (fun w' (h : OpPost Fq wr Bd { (crTo d ks d.now.length) with safe := (crTo d ks d.now.length).now, dead := false, left := -1 } m w') => HE.out wr hO _ w' h)
      clear HK HN HR HKC HE HUp hrel0 H1 HO1 HF1 hO hD
      go_wp2_with fail
      refine CE.mono ?_
      rintro e w8 ⟨rfl, k1, y1, k4, y4, k3, y3, H8⟩
      have HF8 := Lib.hid (HEE.out _ H8.out)
      clear H8 HEE CE
      go_wp2
      go_end0
      exact ⟨rfl, by rw [hcD.out]; exact HF8.out⟩
set_option maxHeartbeats 8000000 in
set_option maxRecDepth 100000 in
theorem crash_false (h : DV Fp w Bd mn ms vs d m) (hF : Up Fp w) (v : Value) (ks : List Int) (hk : KeepsAt Fp w v ks) :
    Calls Tryz.prog 12 #[.pointer (some ⟨Bd, 0, none⟩), v, .bool false] w fun e w' => e = .returned (.tuple #[]) ∧ OpPost Fp w Bd (crashD d ks false) m w' := by
  obtain ⟨q, kc, rfl, hkl, hkm, hkc⟩ := hk
  have hltB := h.ltB
  have b0 := h.c0
  have b1 := h.c1
  have zz := h.fz 0
  have h1 := h.setN
  have hO1 : Oth Fp w (w.setCell ⟨Bd, 0, none⟩ (.map (some ms))) := (Oth.refl Fp w).setCell (p := ⟨Bd, 0, none⟩) h.fB _
  have hF1 := hO1.up hF
  obtain ⟨D1, hD1⟩ : ∃ D1 : DS, D1 = { d with now := d.safe } := ⟨_, rfl⟩
  rw [← hD1] at h1
  have NC := Lib.hid (names_any h1)
  have hlen := h1.lenN
  have hfew := h1.few
  have hcD : Hid (crashD d ks false = { (crTo D1 ks D1.now.length) with safe := (crTo D1 ks D1.now.length).now, dead := false, left := -1 }) := Lib.hid (by rw [hD1]; rfl)
  have H1 := Lib.hid h1
  have HO1 := Lib.hid hO1
  have HF1 := Lib.hid hF1
  have hsz1 := hO1.size
  clear h h1 hF hO1 hF1
  go_enter Tryz.func12, Tryz.ntmps12
  go_wp2_with fail
  refine NC.out.mono ?_
  rintro e w1 ⟨nv, rfl, hrow, hb1⟩
  generalize hW : (w.setCell ⟨Bd, 0, none⟩ (.map (some ms))) = W1 at *
  clear hD1
  have hbase : ∃ (np : Option Addr) (nc : Nat), nv = .slice np D1.now.length nc ∧ D1.now.length ≤ nc ∧ (∀ i (hi : i < D1.now.length), ∃ a, np = some ⟨a, 0, none⟩ ∧ W1.heap.size ≤ a ∧ a < w1.heap.size ∧ w1.cell? ⟨a, i, none⟩ = some (.string ⟨(D1.now[i]).1.toArray⟩)) := by
    rcases hrow.2 with ⟨rfl, hz⟩ | ⟨g, cap, cur, rfl, hbg, hg, r1, r2, r3, r4⟩
    · exact ⟨none, 0, by rw [hz], by omega, fun i hi => by omega⟩
    · refine ⟨_, cap, rfl, r1, fun i hi => ⟨g, rfl, hbg, (Array.getElem?_eq_some_iff.1 hg).1, ?_⟩⟩
      rw [block_cell hg]
      have e1 : cur[i]? = (cur.toList.take (D1.now.length * 1))[i]? := by
        rw [List.getElem?_take, if_pos (by omega)]; simp
      rw [e1, r4]
      simp [encStr, hi]
  obtain ⟨np, nc, rfl, hnc0, hnc⟩ := hbase
  have hup : ∀ k, W1.heap.size ≤ k → Fp k := HF1.out
  have hab := hb1.size
  have hDq := (H1.out.nar w1.heap.size).below hb1
  have hrel0 : Hid (∃ vs', DV (nar Fp W1.heap.size w1.heap.size) w1 Bd ms ms vs' (crTo D1 ks 0) m ∧ Oth (nar Fp W1.heap.size w1.heap.size) w1 w1) := Lib.hid ⟨_, hDq, Oth.refl _ _⟩
  -- in each round's world: the name, the number of bytes to keep
  have HN : Hid (∀ wr, Oth (nar Fp W1.heap.size w1.heap.size) w1 wr → ∀ i (hi : i < D1.now.length), ∃ a, np = some ⟨a, 0, none⟩ ∧ wr.cell? ⟨a, i, none⟩ = some (.string ⟨(D1.now[i]).1.toArray⟩)) := by
    refine Lib.hid ?_
    intro wr hO i hi
    obtain ⟨a, e, h1, h2, h3⟩ := hnc i hi
    refine ⟨a, e, hO.cell (p := ⟨a, i, none⟩) ?_ h3⟩
    rintro (h | h)
    · have : a < W1.heap.size := h.2
      omega
    · have : w1.heap.size ≤ a := h
      omega
  have HKC : Hid (∀ wr, Oth (nar Fp W1.heap.size w1.heap.size) w1 wr → ∀ i (hi : i < ks.length), ∃ a, q = some a ∧ wr.cell? (a.add i) = some (.int .i64 ks[i])) := by
    refine Lib.hid ?_
    intro wr hO i hi
    obtain ⟨a, e, hnf, hc⟩ := hkc i hi
    have hcW : W1.cell? (a.add i) = some (.int .i64 ks[i]) := HO1.out.cell (p := a.add i) (by rw [add_block]; exact hnf) hc
    have hlt := World.block_lt_of_cell? _ _ hcW
    rw [add_block] at hlt
    refine ⟨a, e, hO.cell (p := a.add i) ?_ ((hb1.cell (p := a.add i) (by rw [add_block]; exact hlt)).trans hcW)⟩
    rw [add_block]
    rintro (h | h)
    · exact hnf h.1
    · omega
  have HR : Hid (∀ wr i (hi : i < D1.now.length) vs', DV (nar Fp W1.heap.size w1.heap.size) wr Bd ms ms vs' (crTo D1 ks i) m →
      (Instr.lookup 48 (.map (some ms)) (.string ⟨(D1.now[i]).1.toArray⟩) false).run Tryz.prog wr = .ok (.pointer (some ⟨(D1.now[i]).2, 0, none⟩)) wr ∧
      Calls Tryz.prog 25 #[.pointer (some ⟨(D1.now[i]).2, 0, none⟩), .int .i64 (kf ks i : Nat)] wr fun e w' => e = .returned (.tuple #[]) ∧ FcPost (nar Fp W1.heap.size w1.heap.size) wr Bd ms ms (crTo D1 ks (i + 1)) m w') := by
    refine Lib.hid ?_
    intro wr i hi vs' hD
    have hmem : D1.now[i] ∈ D1.now := List.getElem_mem hi
    have hnow := (crTo_now D1 ks i).1
    have hg : getD (crTo D1 ks i).now (D1.now[i]).1 = some (D1.now[i]).2 := by
      rw [hnow]; exact getD_of_mem H1.out.srtN hmem
    have hsl : (⟨(D1.now[i]).1.toArray⟩ : ByteArray).size ≤ maxLen := by
      have := strKeys_le H1.out.mapN Tryz.underlying9 (D1.now[i]).1 (by rw [strKeys_dat]; exact List.mem_map.2 ⟨_, hmem, rfl⟩)
      exact this
    have lk := hD.lookM ⟨(D1.now[i]).1.toArray⟩ hsl
    rw [show (⟨(D1.now[i]).1.toArray⟩ : ByteArray).data.toList = (D1.now[i]).1 by simp, hg] at lk
    refine ⟨lk, ?_⟩
    have hkb : kf ks i ≤ 9223372036854775807 := by
      unfold kf
      by_cases hx : i < ks.length
      · have := hkm ks[i] (List.getElem_mem hx)
        rw [List.getD_eq_getElem?_getD, List.getElem?_eq_getElem hx]
        simp only [Option.getD_some]
        omega
      · rw [List.getD_eq_getElem?_getD, List.getElem?_eq_none (by omega)]
        simp
    have FC := fcrash_any hD (hD.has_of_get hg) (kf ks i) hkb
    have e : crTo D1 ks (i + 1) = crF (crTo D1 ks i) (D1.now[i]).2 (kf ks i) := by
      conv => lhs; unfold crTo
      rw [List.getElem?_eq_getElem hi]
    rw [e]
    exact FC
  have HE : Hid (∀ wr, Oth (nar Fp W1.heap.size w1.heap.size) w1 wr → ∀ d' w', OpPost (nar Fp W1.heap.size w1.heap.size) wr Bd d' m w' → OpPost Fp w Bd d' m w') := by
    refine Lib.hid ?_
    rintro wr hO d' w' ⟨⟨a1, a2, a3, hne, hD⟩, hO2⟩
    exact ⟨⟨a1, a2, a3, hne, hD.wider (fun j _ hj => nar_of hup hab hj)⟩, ((HO1.out.trans (Oth.of_below hb1)).trans (hO.wide hup hab)).trans (hO2.wide hup hab)⟩
  clear hb1 hrow NC hDq hnc hkc hup hkm
  generalize hFq : nar Fp W1.heap.size w1.heap.size = Fq at *
  have HUp : Hid (∀ wr, Oth Fq w1 wr → Up Fq wr) := Lib.hid (fun wr hO => by rw [← hFq]; exact nar_up hO.size)
  clear hFq
  go_wp2_with fail
  go_loopw [21] (fun iv wr => ∃ i : Nat, i ≤ D1.now.length ∧ iv = .int .i64 i ∧ Hid (∃ vs', DV Fq wr Bd ms ms vs' (crTo D1 ks i) m ∧ Oth Fq w1 wr)) (fun iv _ => D1.now.length - (intOf iv).toNat)
  case atStart => exact ⟨0, Nat.zero_le _, rfl, hrel0⟩
  case round =>
    obtain ⟨i, hi, rfl, HK⟩ := hrel
    obtain ⟨vs', hD, hO⟩ := HK.out
    have c0 := hD.c0
    by_cases hlt : i < D1.now.length
    · obtain ⟨a, rfl, hcn⟩ := HN.out wr hO i hlt
      obtain ⟨lk, FC⟩ := HR.out wr i hlt vs' hD
      by_cases hik : i < ks.length
      · obtain ⟨a2, rfl, hck⟩ := HKC.out wr hO i hik
        have hmax : max ks[i] 0 = ((kf ks i : Nat) : Int) := by
          unfold kf
          rw [List.getD_eq_getElem?_getD, List.getElem?_eq_getElem hik]
          simp only [Option.getD_some]
          omega
        generalize ks[i] = kv at *
        generalize D1.now[i] = nb at *
        generalize kf ks i = kfi at *
        clear HK HN HR HKC HE HUp hD hrel0 H1 HO1 HF1
        go_wp2_with fail
        refine FC.mono ?_
        rintro e w9 ⟨rfl, H9⟩
        have HN9 : Hid (∃ vs', DV Fq w9 Bd ms ms vs' (crTo D1 ks (i + 1)) m ∧ Oth Fq w1 w9) := Lib.hid ⟨H9.1.choose, H9.1.choose_spec, hO.trans H9.2⟩
        clear H9 FC
        go_wp2
        go_roundw
        case rel => exact ⟨i + 1, by omega, by go_num, HN9⟩
        case measure => simp [intOf]; omega
      · have hk0 : kf ks i = 0 := by
          unfold kf
          rw [List.getD_eq_getElem?_getD, List.getElem?_eq_none (by omega)]
          simp
        rw [hk0] at FC
        generalize D1.now[i] = nb at *
        clear HK HN HR HKC HE HUp hD hrel0 H1 HO1 HF1
        go_wp2_with fail
        refine FC.mono ?_
        rintro e w9 ⟨rfl, H9⟩
        have HN9 : Hid (∃ vs', DV Fq w9 Bd ms ms vs' (crTo D1 ks (i + 1)) m ∧ Oth Fq w1 w9) := Lib.hid ⟨H9.1.choose, H9.1.choose_spec, hO.trans H9.2⟩
        clear H9 FC
        go_wp2
        go_roundw
        case rel => exact ⟨i + 1, by omega, by go_num, HN9⟩
        case measure => simp [intOf]; omega
    · obtain rfl : i = D1.now.length := by omega
      have CE := crash_end hD (HUp.out wr hO)
      have HEE := Lib.hid (fun w' (h : OpPost Fq wr Bd { (crTo D1 ks D1.now.length) with safe := (crTo D1 ks D1.now.length).now, dead := false, left := -1 } m w') => HE.out wr hO _ w' h)
      clear HK HN HR HKC HE HUp hrel0 H1 HO1 HF1 hO hD
      go_wp2_with fail
      refine CE.mono ?_
      rintro e w8 ⟨rfl, k1, y1, k4, y4, k3, y3, H8⟩
      have HF8 := Lib.hid (HEE.out _ H8.out)
      clear H8 HEE CE
      go_wp2
      go_end0
      exact ⟨rfl, by rw [hcD.out]; exact HF8.out⟩
end Go.Proofs.YtjlkdglbnfifeaaGreatDoor
