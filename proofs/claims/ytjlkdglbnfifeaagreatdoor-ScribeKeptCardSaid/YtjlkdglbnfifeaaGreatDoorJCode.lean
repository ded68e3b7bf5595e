/-
  CONTRACTS of the journal's functions on texts: length, compare, Frame, Open: what each call answers, and that it writes to nothing that was there.
-/
import Derived.Test.YtjlkdglbnfifeaaGreatDoorJMath
import Derived.Test.YtjlkdglbnfifeaaGreatDoorShelf
import Derived.Lib.AppendIntMem
import Derived.Lib.AtoiErrMem
import Derived.Lib.ItoaLen
namespace Go.Proofs.YtjlkdglbnfifeaaGreatDoor
open Go.RowKit

/-- What the library's package-level variables hold: the table of powers of ten, some int, two errors. -/
structure Gl (w : World) : Prop where
  tab : Lib.TabBelow Tryz.prog w.heap.size w "internal/strconv.uint64pow10" .u64 Lib.pow10Tab
  ml : ∃ m, w.cell? ⟨1, 0, none⟩ = some (.int .i64 m)
  es : ∃ te pe, w.cell? ⟨2, 0, none⟩ = some (.iface te pe)
  er : ∃ te pe, w.cell? ⟨3, 0, none⟩ = some (.iface te pe)
theorem tab_at {B : Nat} {w w1 : World} (htab : Lib.TabBelow Tryz.prog B w "internal/strconv.uint64pow10" .u64 Lib.pow10Tab) (hb : Below B w w1) (hB : B ≤ w1.heap.size) : Lib.TabBelow Tryz.prog w1.heap.size w1 "internal/strconv.uint64pow10" .u64 Lib.pow10Tab :=
  fun w' h' => htab w' (hb.trans (h'.mono hB))
theorem cell_kept' {B : Nat} {w w1 : World} {g : Nat} {v : Value} (h : w.cell? ⟨g, 0, none⟩ = some v) (hb : Below B w w1) (hB : w.heap.size ≤ B) : w1.cell? ⟨g, 0, none⟩ = some v :=
  (hb.cell (p := ⟨g, 0, none⟩) (Nat.lt_of_lt_of_le (World.block_lt_of_cell? _ _ h) hB)).trans h
theorem Gl.next {w w1 : World} (h : Gl w) (hb : Below w.heap.size w w1) : Gl w1 :=
  ⟨tab_at h.tab hb hb.size, h.ml.imp fun _ e => cell_kept' e hb (Nat.le_refl _), let ⟨a, b, e⟩ := h.es; ⟨a, b, cell_kept' e hb (Nat.le_refl _)⟩, let ⟨a, b, e⟩ := h.er; ⟨a, b, cell_kept' e hb (Nat.le_refl _)⟩⟩
theorem Gl.tabIs {w : World} (h : Gl w) : Lib.TabIs Tryz.prog w "internal/strconv.uint64pow10" .u64 Lib.pow10Tab := h.tab _ (Below.refl _ _)

theorem itoa_below (n : Int) (w : World) (h0 : -9223372036854775808 ≤ n) (h1 : n ≤ 9223372036854775807) (G : Gl w) :
    Calls Tryz.prog 44 #[.int .i64 n] w fun e w' => e = .returned (.string ⟨(Lib.itoa n).toArray⟩) ∧ Below w.heap.size w w' :=
  (Tryz.strconv_Itoa n h0 h1 w G.tabIs).mono fun _ _ ⟨e, k, os, hw⟩ => ⟨e, by rw [hw]; exact Lib.below_grow _ w (Nat.le_refl _) k os⟩

theorem atoi_world {w w1 : World} {T : TypeId} (h : w1 = w ∨ ∃ t, w1 = Lib.bytesWorld w T t) : Below w.heap.size w w1 := by
  rcases h with rfl | ⟨t, rfl⟩
  · exact Below.refl _ _
  · exact Lib.bytesWorld_below _ _ _
set_option maxHeartbeats 1000000 in
/-- A length that is none. -/
theorem length_no (d : ByteArray) (w : World) (hd : d.size ≤ 100000) (h : numV d.data.toList = none) (G : Gl w) :
    Calls Tryz.prog 59 #[.string d] w fun e w' => e = .returned (.tuple #[.int .i64 0, .bool false]) ∧ Below w.heap.size w w' := by
  have h1 : d.size ≤ 9223372036854775806 := by omega
  have h2 : d.size ≤ 281474976710656 := by omega
  cases he : Lib.atoiAll d.data.toList with
  | ok v =>
    have hv := atoi_le he
    unfold numV at h
    rw [he] at h
    have AT := Lib.hid (Tryz.strconv_Atoi_ok d h1 v he w)
    by_cases h0 : v < 0
    · clear h he
      have HG := Lib.hid G
      clear G h1 h2 hd
      go_enter Tryz.func59, Tryz.ntmps59
      go_wp2_with fail
      refine AT.out.mono ?_
      rintro e w1 ⟨rfl, hw⟩
      have HB : Hid (Below w.heap.size w w1) := Lib.hid (atoi_world hw)
      clear hw AT
      go_wp2_with fail
      go_ret2
      exact ⟨rfl, HB.out⟩
    · have hne : ¬ (⟨(Lib.itoa v).toArray⟩ : ByteArray) = d := fun e => by
        have e2 : Lib.itoa v = d.data.toList := by rw [← e]
        simp only at h
        rw [if_pos ⟨by omega, e2⟩] at h
        cases h
      have HN := Lib.hid (bytes_ne hne)
      have h0' : 0 ≤ v := by omega
      clear h he hne
      generalize hid : (⟨(Lib.itoa v).toArray⟩ : ByteArray) = it at HN
      have HI := Lib.hid hid
      have HG := Lib.hid G
      clear G h1 h2 hd hid h0
      go_enter Tryz.func59, Tryz.ntmps59
      go_wp2_with fail
      refine AT.out.mono ?_
      rintro e w1 ⟨rfl, hw⟩
      have HB : Hid (Below w.heap.size w w1) := Lib.hid (atoi_world hw)
      clear hw AT
      go_wp2_with fail
      refine (itoa_below v _ hv.1 hv.2 (HG.out.next HB.out)).mono ?_
      rintro e w2 ⟨rfl, hb2⟩
      have HB2 := Lib.hid (HB.out.trans (hb2.mono HB.out.size))
      rw [HI.out]
      have hn := HN.out
      clear hb2 HB
      go_wp2_with fail
      go_ret2
      exact ⟨rfl, HB2.out⟩
  | range =>
    obtain ⟨te, pe, hev⟩ := G.er
    have AT := Lib.hid (Tryz.strconv_Atoi_range d h2 he _ w hev (Or.inr ⟨te, pe, rfl⟩))
    clear h he G hev h1 h2 hd
    go_enter Tryz.func59, Tryz.ntmps59
    go_wp2_with fail
    refine AT.out.mono ?_
    rintro e w1 ⟨N, rfl, _, _, hb⟩
    have HB := Lib.hid hb
    clear hb AT
    go_wp2_with fail
    go_ret2
    exact ⟨rfl, HB.out⟩
  | _ =>
    obtain ⟨te, pe, hev⟩ := G.es
    have AT := Lib.hid (Tryz.strconv_Atoi_syntax d h2 he _ w hev (Or.inr ⟨te, pe, rfl⟩))
    clear h he G hev h1 h2 hd
    go_enter Tryz.func59, Tryz.ntmps59
    go_wp2_with fail
    refine AT.out.mono ?_
    rintro e w1 ⟨N, rfl, _, _, hb⟩
    have HB := Lib.hid hb
    clear hb AT
    go_wp2_with fail
    go_ret2
    exact ⟨rfl, HB.out⟩
set_option maxHeartbeats 1000000 in
/-- A length. -/
theorem length_yes (d : ByteArray) (n : Nat) (w : World) (hd : d.size ≤ 100000) (h : numV d.data.toList = some n) (G : Gl w) :
    Calls Tryz.prog 59 #[.string d] w fun e w' => e = .returned (.tuple #[.int .i64 n, .bool true]) ∧ Below w.heap.size w w' := by
  obtain ⟨hdd, hn⟩ := numV_some h
  have he : Lib.atoiAll d.data.toList = .ok (n : Int) := by rw [hdd]; exact atoi_digits n hn
  have AT := Lib.hid (Tryz.strconv_Atoi_ok d (by omega) n he w)
  have HI := Lib.hid (show (⟨(Lib.itoa (n : Int)).toArray⟩ : ByteArray) = d from WideShapes.bytes_inj (by rw [hdd, Lib.itoa_nonneg]))
  have HG := Lib.hid G
  clear G he hdd h hd
  go_enter Tryz.func59, Tryz.ntmps59
  go_wp2_with fail
  refine AT.out.mono ?_
  rintro e w1 ⟨rfl, hw⟩
  have HB : Hid (Below w.heap.size w w1) := Lib.hid (atoi_world hw)
  clear hw AT
  go_wp2_with fail
  refine (itoa_below n _ (by omega) (by omega) (HG.out.next HB.out)).mono ?_
  rintro e w2 ⟨rfl, hb2⟩
  have HB2 := Lib.hid (HB.out.trans (hb2.mono HB.out.size))
  rw [HI.out]
  clear hb2 HB
  go_wp2_with fail
  go_ret2
  exact ⟨rfl, HB2.out⟩

theorem compare_any (a n : Nat) (w : World) :
    Calls Tryz.prog 60 #[.int .i64 a, .int .i64 n] w fun e w' => e = .returned (.int .i64 (if a < n then 2 else if n < a then 3 else 0)) ∧ w = w' := by
  rcases Nat.lt_trichotomy a n with h | h | h
  · rw [if_pos h]
    go_enter Tryz.func60, Tryz.ntmps60
    go_wp2
    go_ret
    exact ⟨rfl, rfl⟩
  · subst h
    rw [if_neg (Nat.lt_irrefl _)]
    go_enter Tryz.func60, Tryz.ntmps60
    go_wp2
    go_ret
    exact ⟨rfl, rfl⟩
  · rw [if_neg (by omega), if_pos h]
    have h1 : ¬ a < n := by omega
    go_enter Tryz.func60, Tryz.ntmps60
    go_wp2
    go_ret
    exact ⟨rfl, rfl⟩
end Go.Proofs.YtjlkdglbnfifeaaGreatDoor
