/-
  CONTRACTS of layer 16's laws' awake, and of Next.
-/
import Derived.Test.YtllbnbnpcogckaaGreatDoorInW7
import Derived.Test.YtllbnbnpcogckaaGreatDoorCutA
namespace Go.Proofs.YtllbnbnpcogckaaGreatDoor
open Go.RowKit

theorem awf1 : fieldsB ⟨#[97, 44, 44, 98]⟩ ⟨#[44]⟩ = [⟨#[97]⟩, ⟨#[]⟩, ⟨#[98]⟩] := by decide +kernel
theorem awf2 : fieldsB ⟨#[97, 32, 98]⟩ ⟨#[32]⟩ = [⟨#[97]⟩, ⟨#[98]⟩] := by decide +kernel
def awL : List Ce := [⟨2, 0, ⟨#[97]⟩⟩, ⟨2, 0, ⟨#[98]⟩⟩]
theorem awl2 : (fieldsB ⟨#[97, 32, 98]⟩ ⟨#[32]⟩).map inC = awL := by
  rw [awf2]
  have h1 : inC ⟨#[97]⟩ = ⟨2, 0, ⟨#[97]⟩⟩ := by
    unfold inC
    rw [show inK (⟨#[97]⟩ : ByteArray).data.toList = 2 by decide +kernel, show inN (⟨#[97]⟩ : ByteArray).data.toList = 0 by decide +kernel]
  have h2 : inC ⟨#[98]⟩ = ⟨2, 0, ⟨#[98]⟩⟩ := by
    unfold inC
    rw [show inK (⟨#[98]⟩ : ByteArray).data.toList = 2 by decide +kernel, show inN (⟨#[98]⟩ : ByteArray).data.toList = 0 by decide +kernel]
  simp [awL, h1, h2]
def awX : Ce := ⟨2, 0, ⟨#[120]⟩⟩
def awS : List Ce := [⟨2, 0, ⟨#[97]⟩⟩, ⟨2, 0, ⟨#[98]⟩⟩, zc, awX]
theorem aws : stL awL 3 awX = awS := by rfl
theorem awt : jk awS [45] 4 = [97, 45, 98, 45, 45, 120] := by decide +kernel
theorem awok : ∀ c ∈ awS, okc c := by
  intro c hc
  simp [awS, zc, awX] at hc
  rcases hc with rfl | rfl | rfl | rfl <;> exact ⟨(fun h => by cases h), by decide⟩
set_option maxRecDepth 100000 in
set_option maxHeartbeats 4000000 in
theorem iawake_any (w : World) (G : Gi w) :
    Calls Tryz.prog 10 #[] w fun e w' => e = .returned (.bool true) ∧ Below w.heap.size w w' := by
  have C1 : Hid (∀ W, Gi W → Calls Tryz.prog 11 #[.string ⟨#[97, 44, 44, 98]⟩, .string ⟨#[44]⟩, .bool false] W (CtPost [⟨#[97]⟩, ⟨#[]⟩, ⟨#[98]⟩] W)) := Lib.hid fun W G => by
    have h := isplit_any ⟨#[97, 44, 44, 98]⟩ ⟨#[44]⟩ W (by decide) (by decide) (by rw [awf1]; decide) G
    rw [awf1] at h; exact h
  have C2 : Hid (∀ W b x y, W.heap[b]? = some (.cells #[x, y] 35 (0, 0)) → Gi W → Calls Tryz.prog 12 #[.pointer (some ⟨b, 0, none⟩), .string ⟨#[97, 32, 98]⟩, .string ⟨#[32]⟩] W (LdPost b ⟨#[97, 32, 98]⟩ awL W)) := Lib.hid fun W b x y hx G => by
    have h := load_any b x y ⟨#[97, 32, 98]⟩ ⟨#[32]⟩ W (by decide) (by decide) (by rw [awf2]; decide) hx G
    rw [awl2] at h; exact h
  have C3 := Lib.hid fun W => text_mk ⟨#[120]⟩ W (by decide)
  have C4 : Hid (∀ W b v, Rec W b ⟨#[97, 32, 98]⟩ awL v → Gi W → Calls Tryz.prog 15 #[.pointer (some ⟨b, 0, none⟩), .int .i64 4, .agg #[.int .i64 2, .int .i64 0, .string ⟨#[120]⟩], .string ⟨#[32]⟩, .string ⟨#[45]⟩] W (LdPost b ⟨#[97, 45, 98, 45, 45, 120]⟩ awS W)) := Lib.hid fun W b v h G => by
    have := rset_any h 3 awX (by omega) (by decide) ⟨#[32]⟩ ⟨#[45]⟩ ⟨#[97, 45, 98, 45, 45, 120]⟩ (by decide) (by rw [aws]; exact awok) (by rw [aws]; exact awt.symm) (by decide) (by decide) G
    rw [aws] at this
    exact this
  have C5 : Hid (∀ W b v, Rec W b ⟨#[97, 45, 98, 45, 45, 120]⟩ awS v → Calls Tryz.prog 21 #[.pointer (some ⟨b, 0, none⟩)] W fun e w' => e = .returned (.string ⟨#[97, 45, 98, 45, 45, 120]⟩) ∧ Below W.heap.size W w') := Lib.hid fun W b v h => rtext_any h (by decide)
  have C6 : Hid (∀ W b v, Rec W b ⟨#[97, 45, 98, 45, 45, 120]⟩ awS v → Calls Tryz.prog 14 #[.pointer (some ⟨b, 0, none⟩)] W fun e w' => e = .returned (.int .i64 4) ∧ Below W.heap.size W w') := Lib.hid fun W b v h => count_any h
  have HG := Lib.hid G
  unfold cv at C3
  clear G
  go_enter Tryz.func10, Tryz.ntmps10
  go_wp2_with fail
  refine (C1.out _ HG.out).mono ?_
  rintro e w1 ⟨v1, rfl, ho1, hb1⟩
  obtain ⟨p1, c1, rfl⟩ := own_form ho1
  obtain ⟨g1, rfl⟩ : ∃ g, p1 = some ⟨g, 0, none⟩ := by
    rcases ho1.2 with ⟨h1, h0⟩ | ⟨g, cap, cur, h1, _⟩
    · cases h0
    · injection h1 with h1 _ _; exact ⟨g, h1⟩
  have k2 : w1.cell? ⟨g1, 2, none⟩ = some (.string ⟨#[98]⟩) := own_at ho1 2 (by decide) (by decide)
  have hg1 := (ho1.lt g1 rfl).2
  have ha : Below w1.heap.size w1 (w1.alloc (.cells #[.string ⟨#[]⟩, .slice none 0 0] 35)) := (Below.refl _ _).alloc (Nat.le_refl _) _
  have k2' : (w1.alloc (.cells #[.string ⟨#[]⟩, .slice none 0 0] 35)).cell? ⟨g1, 2, none⟩ = some (.string ⟨#[98]⟩) := (ha.cell (p := ⟨g1, 2, none⟩) hg1).trans k2
  have hnew : (w1.alloc (.cells #[.string ⟨#[]⟩, .slice none 0 0] 35)).heap[w1.heap.size]? = some (.cells #[.string ⟨#[]⟩, .slice none 0 0] 35 (0, 0)) := by
    show (w1.heap.push _)[w1.heap.size]? = _
    exact Array.getElem?_push_size
  have HNEW := Lib.hid hnew
  have HB1 := Lib.hid (hb1.trans (ha.mono hb1.size))
  have hsz := hb1.size
  clear ho1 hb1 k2 ha hnew C1
  go_wp2_with fail
  refine (C2.out _ _ _ _ HNEW.out (HG.out.next HB1.out)).mono ?_
  rintro e w2 ⟨rfl, v2, hr2, -, ho2⟩
  have HR2 := Lib.hid hr2
  have HB2 := Lib.hid (HB1.out.trans (ho2.below (B := w.heap.size) hsz (by simp; omega)))
  clear hr2 ho2 HNEW HB1 k2' C2
  go_wp2_with fail
  refine (C3.out _).mono ?_
  rintro e w3 ⟨rfl, hb3⟩
  have HR3 := Lib.hid (HR2.out.next hb3)
  have HB3 := Lib.hid (HB2.out.trans (hb3.mono HB2.out.size))
  clear hb3 HR2 HB2
  go_wp2_with fail
  refine (C4.out _ _ _ HR3.out (HG.out.next HB3.out)).mono ?_
  rintro e w4 ⟨rfl, v4, hr4, -, ho4⟩
  have HR4 := Lib.hid hr4
  have HB4 := Lib.hid (HB3.out.trans (ho4.below (B := w.heap.size) hsz HB3.out.size))
  clear hr4 ho4 HR3 HB3 C4 C3
  go_wp2_with fail
  refine (C5.out _ _ _ HR4.out).mono ?_
  rintro e w5 ⟨rfl, hb5⟩
  have HR5 := Lib.hid (HR4.out.next hb5)
  have HB5 := Lib.hid (HB4.out.trans (hb5.mono HB4.out.size))
  clear hb5 HR4 HB4 C5
  go_wp2_with fail
  refine (C6.out _ _ _ HR5.out).mono ?_
  rintro e w6 ⟨rfl, hb6⟩
  have HB6 := Lib.hid (HB5.out.trans (hb6.mono HB5.out.size))
  clear hb6 HR5 HB5 C6
  go_wp2_with fail
  go_ret
  exact ⟨rfl, HB6.out⟩

/-! Next. -/
theorem cut_none : ∀ (l : List UInt8), (10 : UInt8) ∉ l → Lib.indexByte l 10 = -1
  | [], _ => rfl
  | b :: l, h => by
    have h1 : b ≠ 10 := fun e => h (by simp [e])
    have h2 := cut_none l (fun e => h (List.mem_cons_of_mem _ e))
    unfold Lib.indexByte
    rw [if_neg (by simpa using h1), h2]; rfl
theorem cut_some : ∀ (a r : List UInt8), (10 : UInt8) ∉ a → Lib.indexByte (a ++ 10 :: r) 10 = a.length
  | [], r, _ => by unfold Lib.indexByte; rfl
  | b :: l, r, h => by
    have h1 : b ≠ 10 := fun e => h (by simp [e])
    have h2 := cut_some l r (fun e => h (List.mem_cons_of_mem _ e))
    show Lib.indexByte (b :: (l ++ 10 :: r)) 10 = _
    unfold Lib.indexByte
    rw [if_neg (by simpa using h1), h2]
    have : ¬ ((l.length : Int) == -1) = true := by simp
    rw [if_neg this]; simp
theorem cut10_none (l : List UInt8) (h : (10 : UInt8) ∉ l) : Lib.cut l [10] = (l, [], false) := by
  unfold Lib.cut
  rw [Lib.index_one, cut_none l h]; rfl
theorem cut10_some (a r : List UInt8) (h : (10 : UInt8) ∉ a) : Lib.cut (a ++ 10 :: r) [10] = (a, r, true) := by
  unfold Lib.cut
  rw [Lib.index_one, cut_some a r h]
  rw [if_pos (by omega)]
  simp
theorem next_end (s : ByteArray) (p : Nat) (hp : p = s.size) (w : World) :
    Calls Tryz.prog 9 #[.string s, .int .i64 (p : Int)] w fun e w' => e = .returned (.tuple #[.string ⟨#[]⟩, .int .i64 (p : Int), .bool false]) ∧ Below w.heap.size w w' := by
  have h1 : (s.size : Int) ≤ (p : Int) := by omega
  have h2 : ¬ (p : Int) < 0 := by omega
  go_enter Tryz.func9, Tryz.ntmps9
  go_wp2
  go_ret3
  exact ⟨rfl, Below.refl _ _⟩
/-- A record's end: behind its byte 10, or the text's end. -/
theorem next_any (s : ByteArray) (p : Nat) (hp : p < s.size) (hs : s.size ≤ 4000) (A : ByteArray) (a r : List UInt8) (last : Bool) (hA : A.data.toList = a) (h : (s.extract p s.size).data.toList = if last then a else a ++ 10 :: r) (h10 : (10 : UInt8) ∉ a) (w : World) (G : Gi w) :
    Calls Tryz.prog 9 #[.string s, .int .i64 (p : Int)] w fun e w' => e = .returned (.tuple #[.string A, .int .i64 (if last then (p : Int) + A.size else (p : Int) + A.size + 1), .bool true]) ∧ Below w.heap.size w w' := by
  obtain ⟨m, hm⟩ := G.mx
  obtain ⟨S, hS⟩ : ∃ S, s.extract p s.size = S := ⟨_, rfl⟩
  have hSs : S.size = s.size - p := by rw [← hS]; simp
  rw [hS] at h
  have C1 := Tryz.strings_Cut S ⟨#[10]⟩ m w (by omega) hm
  have hAs : A.size = a.length := by rw [← ba_sz, hA]
  have hle : a.length ≤ S.size := by
    have := ba_sz S
    rw [h] at this
    cases last <;> simp at this <;> omega
  have hAe : (⟨a.toArray⟩ : ByteArray) = A := by rw [← hA]
  have C2 := Lib.hid fun W => clone_any A W (by omega)
  have h1 : ¬ (p : Int) < 0 := by omega
  have h2 : ¬ (s.size : Int) ≤ (p : Int) := by omega
  have h3 : (p : Int) ≤ (s.size : Int) := by omega
  have hle2 : A.size ≤ s.size := by omega
  clear hAs hle
  cases last
  · rw [if_neg (by decide)] at h ⊢
    rw [h, show (⟨#[10]⟩ : ByteArray).data.toList = [10] from rfl, cut10_some a r h10] at C1
    simp only [hAe] at C1
    have C1' := Lib.hid C1
    clear C1 hm h hA G
    go_enter Tryz.func9, Tryz.ntmps9
    go_wp2_with fail
    refine C1'.out.mono ?_
    rintro e w1 ⟨rfl, n, rfl⟩
    go_wp2_with fail
    refine (C2.out _).mono ?_
    rintro e w2 ⟨rfl, hb2⟩
    go_wp2_with fail
    go_ret3
    exact ⟨rfl, (below_drewN w n).trans hb2⟩
  · rw [if_pos rfl] at h ⊢
    rw [h, show (⟨#[10]⟩ : ByteArray).data.toList = [10] from rfl, cut10_none a h10] at C1
    simp only [hAe] at C1
    have C1' := Lib.hid C1
    clear C1 hm h hA G
    go_enter Tryz.func9, Tryz.ntmps9
    go_wp2_with fail
    refine C1'.out.mono ?_
    rintro e w1 ⟨rfl, n, rfl⟩
    go_wp2_with fail
    refine (C2.out _).mono ?_
    rintro e w2 ⟨rfl, hb2⟩
    go_wp2_with fail
    go_ret3
    exact ⟨rfl, (below_drewN w n).trans hb2⟩
end Go.Proofs.YtllbnbnpcogckaaGreatDoor
