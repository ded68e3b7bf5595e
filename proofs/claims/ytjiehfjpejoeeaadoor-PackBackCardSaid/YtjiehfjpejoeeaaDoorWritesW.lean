/-
  THE WALK of the law PackWrites: whatever the things, it returns true and writes to nothing that was there, where the library's table of powers of ten is as its text lays it.
-/
import Derived.Test.YtjiehfjpejoeeaaDoorPut
namespace Go.Proofs.YtjiehfjpejoeeaaDoor
open Go.RowKit

/-- What a thing that comes in keeps. -/
def Th.ok (t : Th) : Prop := -9223372036854775808 ≤ t.n ∧ t.n ≤ 9223372036854775807 ∧ t.s.size ≤ maxLen
def Th.small (t : Th) : Prop := -9223372036854775808 ≤ t.n ∧ t.n ≤ 9223372036854775807 ∧ t.s.size ≤ 200
theorem few_small {l : List Th} {n : Nat} (h : ∀ t ∈ l, t.ok) : ∀ t ∈ fewL l n, t.small := by
  intro t ht
  obtain ⟨u, hu, rfl⟩ := List.mem_map.1 ht
  obtain ⟨h1, h2, _⟩ := h u (List.mem_of_mem_take hu)
  exact ⟨h1, h2, cutB_size _ _⟩
theorem few_length (l : List Th) (n : Nat) : (fewL l n).length ≤ n := by unfold fewL; simp; omega
theorem enc_len {t : Th} (h : t.small) : t.enc.length ≤ 300 := by
  obtain ⟨h1, h2, h3⟩ := h
  unfold Th.enc
  split
  · have := (itoa_len t.n h1 h2).2
    simp [intL]; omega
  · split
    · have := (itoa_len t.s.data.toList.length (by omega) (by simp; omega)).2
      have e : t.s.data.toList.length = t.s.size := by simp
      simp [textL] at this ⊢; omega
    · split
      · simp
      · split <;> simp
/-- The bytes of things one behind the other. -/
def encs (l : List Th) : List UInt8 := l.flatMap Th.enc
theorem encs_snoc {l : List Th} {k : Nat} (h : k < l.length) : encs (l.take (k + 1)) = encs (l.take k) ++ l[k].enc := by
  unfold encs
  rw [List.take_succ_eq_append_getElem h, List.flatMap_append]
  simp only [List.flatMap_cons, List.flatMap_nil, List.append_nil]
theorem encs_len {l : List Th} (h : ∀ t ∈ l, t.small) : (encs l).length ≤ 300 * l.length := by
  induction l with
  | nil => simp [encs]
  | cons t l ih =>
    have h1 := enc_len (h t (by simp))
    have h2 := ih (fun u hu => h u (by simp [hu]))
    simp only [encs, List.flatMap_cons, List.length_append, List.length_cons] at h2 ⊢
    omega
theorem encs_take_len {l : List Th} (h : ∀ t ∈ l, t.small) (k : Nat) : (encs (l.take k)).length ≤ 300 * l.length := by
  have := encs_len (l := l.take k) (fun t ht => h t (List.mem_of_mem_take ht))
  simp at this; omega

set_option maxHeartbeats 2000000 in
theorem writes_walk (p : Option Addr) (cap : Nat) (l : List Th) (w : World) (hA : ThAt w p l) (hl : l.length ≤ maxLen) (hok : ∀ t ∈ l, t.ok) (htab : Lib.TabBelow Tryd.prog w.heap.size w "internal/strconv.uint64pow10" .u64 Lib.pow10Tab) :
    Calls Tryd.prog 3 #[.slice p l.length cap] w fun e w' => e = .returned (.bool true) ∧ Below w.heap.size w w' := by
  have hba : Below w.heap.size w (w.alloc (.cells #[.slice none 0 0] 25)) := (Below.refl _ _).alloc (Nat.le_refl _) _
  have FEW := Lib.hid (few_any p cap l 40 (w.alloc (.cells #[.slice none 0 0] 25)) (hA.below hba) hl (by omega) (fun t ht => (hok t ht).2.2))
  have hw0 := Wr.new w
  have hsm := few_small (n := 40) hok
  have hle := few_length l 40
  have HTAB := Lib.hid htab
  generalize fewL l 40 = fl at *
  clear htab hA hl hok
  have HS := Lib.hid hsm
  have HL := Lib.hid (encs_take_len hsm)
  clear hsm
  go_enter Tryd.func3, Tryd.ntmps3
  go_wp2_with fail
  refine FEW.out.mono ?_
  rintro e w1 ⟨g, c, rfl, hrow, hb1⟩
  have hw1 := hw0.kept hb1
  have hB1 := hba.trans (hb1.mono hba.size)
  have HR := Lib.hid hrow
  have hge : w.heap.size + 1 ≤ g := by have := hrow.ge; simpa using this
  clear FEW hw0 hba hb1 hrow
  go_wp2_with fail
  go_loopw [4, 10] (fun sv iv wr => ∃ (k : Nat) (u : ByteArray), k ≤ fl.length ∧ iv = .int .i64 k ∧ sv = .string u ∧ Hid (u.data.toList = encs (fl.take k)) ∧ Hid (Wr wr w.heap.size (w.heap.size + 1) (encs (fl.take k))) ∧ Hid (WFr w.heap.size (w.heap.size + 1) w1 wr)) (fun _ iv _ => fl.length - (intOf iv).toNat)
  case atStart => exact ⟨0, ⟨#[]⟩, by omega, rfl, rfl, Lib.hid rfl, Lib.hid hw1, Lib.hid (WFr.refl _ _ _)⟩
  case round =>
    obtain ⟨k, u, hk, rfl, rfl, HU, HW, HF⟩ := hrel
    have hkl := HL.out k
    have huz : u.size ≤ 20000 := by have := congrArg List.length HU.out; simp at this; omega
    by_cases hc : k < fl.length
    · have hx : wr.heap[g]? = w1.heap[g]? := by
        obtain ⟨cs, fz, hcs⟩ := HR.out.kind
        rw [hcs]
        exact HF.out.others g _ hcs (by intro h; injection h; omega) (fun c fz h => by cases h)
      obtain ⟨hc0, hc1, hc2⟩ := (HR.out.kept hx).cells k hc
      have hsm := HS.out _ (List.getElem_mem hc)
      have hF1 : Below w.heap.size w (wr.alloc (.cells #[.int .i64 fl[k].k, .int .i64 fl[k].n, .string fl[k].s] 28)) := (hB1.trans (HF.out.below (by omega))).alloc (by have := (hB1.trans (HF.out.below (by omega))).size; omega) _
      have hWa := HW.out.kept ((Below.refl wr.heap.size wr).alloc (Nat.le_refl _) (.cells #[.int .i64 fl[k].k, .int .i64 fl[k].n, .string fl[k].s] 28))
      have PUT := Lib.hid (put_any w.heap.size (w.heap.size + 1) (encs (fl.take k)) fl[k] _ hWa (by omega) hsm.2.2 hsm.1 hsm.2.1 (HTAB.out.on hF1))
      clear hx hsm hF1 hWa
      go_wp2_with fail
      refine PUT.out.mono ?_
      rintro e w2 ⟨rfl, hw2, hf2⟩
      have HW2 := Lib.hid hw2
      have HF2 := Lib.hid ((HF.out.trans (WFr.ofBelow ((Below.refl wr.heap.size wr).alloc (Nat.le_refl _) (.cells #[.int .i64 fl[k].k, .int .i64 fl[k].n, .string fl[k].s] 28)) HW.out.le.2)).trans hf2)
      have hez := enc_len (HS.out _ (List.getElem_mem hc))
      clear hw2 hf2 PUT
      go_wp2_with fail
      go_roundw
      case rel => exact ⟨k + 1, _, by omega, by go_num, rfl, Lib.hid (by rw [ByteArray.data_append, Array.toList_append, HU.out, encs_snoc hc]), Lib.hid (by rw [encs_snoc hc]; exact HW2.out), HF2⟩
      case measure => simp [intOf]; omega
    · obtain rfl : k = fl.length := by omega
      obtain rfl : u = ⟨(encs (fl.take fl.length)).toArray⟩ := WideShapes.bytes_inj (by rw [HU.out])
      have hB2 := hB1.trans (HF.out.below (by omega))
      clear HU HR HL HS
      go_wp2_with fail
      refine (awake_any _ (tab_at HTAB.out hB2 hB2.size)).mono ?_
      rintro e w3 ⟨rfl, hb3⟩
      have hw3 := HW.out.kept hb3
      have hB3 := hB2.trans (hb3.mono hB2.size)
      clear hB2 hb3
      go_wp2_with fail
      refine (wbytes_any _ _ _ _ hw3).mono ?_
      rintro e w4 ⟨rfl, rfl⟩
      go_wp2_with fail
      go_ret
      exact ⟨rfl, hB3⟩
end Go.Proofs.YtjiehfjpejoeeaaDoor
