/-
  THE WALK of the law InputJoins: whatever the text and the byte, it returns true and writes to nothing that was there.
-/
import Derived.Test.YtllbnbnpcogckaaGreatDoorInM
namespace Go.Proofs.YtllbnbnpcogckaaGreatDoor
open Go.RowKit

theorem conv_u8 (c : UInt8) (W : World) (T : TypeId) : (convert 31 9 (.slice (some ⟨W.heap.size, 0, none⟩) 1 1)).run Tryz.prog (W.alloc (.cells #[.int .u8 (c.toNat : Int)] T)) = .ok (.string ⟨#[c]⟩) (W.alloc (.cells #[.int .u8 (c.toNat : Int)] T)) := by
  have h := run_convert_bytes_back (P := Tryz.prog) (W.alloc (.cells #[.int .u8 (c.toNat : Int)] T)) 31 9 5 ⟨W.heap.size, 0, none⟩ 1 [c] Tryz.underlying31 Tryz.underlying5 Tryz.underlying9 (fun j hj => by
    match j, hj with
    | 0, _ => simp [Addr.add, go_sem])
  exact h
/-- What a round of the law's loop finds. -/
structure JsR (w : World) (l : List ByteArray) (v : Value) (c : UInt8) (k : Nat) (X : ByteArray) (wr : World) : Prop where
  row : wr.ownsRow 0 9 1 v l.length (l.map Value.string)
  all : X.data.toList = jb (datas l) [c] k
  below : Below w.heap.size w wr
theorem JsR.next {w : World} {l : List ByteArray} {v : Value} {c : UInt8} {k : Nat} {X : ByteArray} {wr w1 : World} (h : JsR w l v c k X wr) (hb : Below wr.heap.size wr w1) : JsR w l v c k X w1 :=
  ⟨own_next h.row hb, h.all, h.below.trans (hb.mono h.below.size)⟩
theorem datas_get (l : List ByteArray) (k : Nat) (h : k < l.length) : (datas l).getD k [] = l[k].data.toList := by
  rw [List.getD_eq_getElem?_getD]
  unfold datas
  rw [List.getElem?_map, List.getElem?_eq_getElem h]; rfl
set_option maxHeartbeats 4000000 in
set_option maxRecDepth 100000 in
theorem joins_in (s0 s : ByteArray) (c : UInt8) (w0 : s0.size ≤ maxLen) (hs : cutB s0 200 = s) (w : World) (G : Gi w) :
    Calls Tryz.prog 4 #[.string s0, .int .u8 (c.toNat : Int)] w fun e w' => e = .returned (.bool true) ∧ Below w.heap.size w w' := by
  have C1 : Hid (∀ W, Calls Tryz.prog 8 #[.string s0, .int .i64 200] W fun e w' => e = .returned (.string s) ∧ W = w') := Lib.hid fun W => by
    have := cut_any s0 200 W w0 (by omega)
    rw [hs] at this; exact this
  have hsz : s.size ≤ 200 := by rw [← hs]; exact cutB_size s0 200
  have AW := Lib.hid fun W G => iawake_any W G
  have HG := Lib.hid G
  clear hs w0 G
  by_cases he : s.toList = []
  · have he' : s.toList.isEmpty = true := by rw [he]; rfl
    clear he
    by_cases h32 : (c.toNat : Int) = 32
    all_goals
      go_enter Tryz.func4, Tryz.ntmps4
      go_wp2_with fail
      refine (C1.out _).mono ?_
      rintro e w1 ⟨rfl, rfl⟩
      go_wp2_with fail
      refine (AW.out _ HG.out).mono ?_
      rintro e w3 ⟨rfl, hb3⟩
      have HB3 := Lib.hid hb3
      clear hb3
      go_wp2_with fail
      go_ret
      exact ⟨rfl, HB3.out⟩
  · have he' : s.toList.isEmpty = false := by rw [Bool.eq_false_iff, ne_eq, List.isEmpty_iff]; exact he
    by_cases h32 : (c.toNat : Int) = 32
    · clear he
      go_enter Tryz.func4, Tryz.ntmps4
      go_wp2_with fail
      refine (C1.out _).mono ?_
      rintro e w1 ⟨rfl, rfl⟩
      go_wp2_with fail
      refine (AW.out _ HG.out).mono ?_
      rintro e w3 ⟨rfl, hb3⟩
      have HB3 := Lib.hid hb3
      clear hb3
      go_wp2_with fail
      go_ret
      exact ⟨rfl, HB3.out⟩
    · have hne : (⟨#[c]⟩ : ByteArray).toList ≠ [32] := by
        intro h
        have h2 : [c] = [32] := by rw [toList_data'] at h; exact h
        injection h2 with h2
        apply h32; rw [h2]; rfl
      have HJ := Lib.hid (jb_fields s ⟨#[c]⟩ he hne)
      have hfl := fields_len s ⟨#[c]⟩ rfl
      have C2 : Hid (∀ W, Gi W → Calls Tryz.prog 11 #[.string s, .string ⟨#[c]⟩, .bool false] W (CtPost (fieldsB s ⟨#[c]⟩) W)) := Lib.hid fun W G => isplit_any s ⟨#[c]⟩ W (by omega) rfl (by omega) G
      clear he hne
      generalize fieldsB s ⟨#[c]⟩ = l at *
      have hcv := fun W => conv_u8 c W 5
      go_enter Tryz.func4, Tryz.ntmps4
      go_wp2_with fail
      refine (C1.out _).mono ?_
      rintro e w1 ⟨rfl, rfl⟩
      go_wp2_with fail
      have hba : Below w.heap.size w (w.alloc (.cells #[.int .u8 (c.toNat : Int)] 5)) := (Below.refl _ _).alloc (Nat.le_refl _) _
      refine (C2.out _ (HG.out.next hba)).mono ?_
      rintro e w2 ⟨v, rfl, ho2, hb2⟩
      obtain ⟨p, cc, rfl⟩ := own_form ho2
      have HI : Hid (JsR w l (.slice p l.length cc) c 0 ⟨#[]⟩ w2) := Lib.hid ⟨own_mono ho2 (Nat.zero_le _), rfl, hba.trans (hb2.mono hba.size)⟩
      clear ho2 hb2 hba C2 C1
      go_wp2_with fail
      go_loopw [7, 31] (fun av iv wr => ∃ (k : Nat) (X : ByteArray), k ≤ l.length ∧ X.size ≤ 200 ∧ av = .string X ∧ iv = .int .i64 (k : Int) ∧ Hid (JsR w l (.slice p l.length cc) c k X wr)) (fun _ iv _ => l.length - (intOf iv).toNat)
      case atStart => exact ⟨0, ⟨#[]⟩, Nat.zero_le _, by decide, rfl, rfl, HI⟩
      case round =>
        obtain ⟨k, X, hk, hX, rfl, rfl, HX⟩ := hrel
        clear HI
        by_cases hlt : k < l.length
        · have hki : (k : Int) < (l.length : Int) := by omega
          obtain ⟨g, rfl⟩ : ∃ g, p = some ⟨g, 0, none⟩ := by
            rcases HX.out.row.2 with ⟨h1, h0⟩ | ⟨g, cap, cur, h1, _⟩
            · omega
            · injection h1 with h1 _ _; exact ⟨g, h1⟩
          have c0 := own_at HX.out.row k hlt hlt
          have hsu := jb_succ (datas l) [c] k
          rw [datas_get l k hlt] at hsu
          have hle := jb_le (datas l) [c] (k + 1) (l.length - (k + 1))
          rw [show k + 1 + (l.length - (k + 1)) = l.length by omega] at hle
          have hj2 : jb (datas l) [c] l.length = s.data.toList := HJ.out
          rw [hj2, ba_sz] at hle
          generalize l[k] = f at *
          have hall := HX.out.all
          have hxs : X.size = (jb (datas l) [c] k).length := by rw [← hall, ba_sz]
          by_cases hk0 : k = 0
          · subst hk0
            have hgk : ¬ (0 : Int) < ((0 : Nat) : Int) := by omega
            have hn : jb (datas l) [c] (0 + 1) = (X ++ f).data.toList := by rw [hsu, if_pos rfl, ByteArray.data_append, Array.toList_append, hall]; simp
            rw [hn, ba_sz] at hle
            have hcs : ¬ 9223372036854775807 < X.size + f.size := by rw [ByteArray.size_append] at hle; omega
            have HN := fun wr (h : JsR w l (.slice (some ⟨g, 0, none⟩) l.length cc) c 0 X wr) => (⟨h.row, hn.symm, h.below⟩ : JsR w l (.slice (some ⟨g, 0, none⟩) l.length cc) c (0 + 1) (X ++ f) wr)
            have HN' := Lib.hid (HN wr HX.out)
            clear hsu hn hall hxs HN HX hj2
            go_wp2_with fail
            go_roundw
            case rel => exact ⟨0 + 1, X ++ f, by omega, by omega, rfl, by go_num, HN'⟩
            case measure => simp [intOf]; omega
          · have hgk : (0 : Int) < (k : Int) := by omega
            have hn : jb (datas l) [c] (k + 1) = (X ++ (⟨#[c]⟩ : ByteArray) ++ f).data.toList := by rw [hsu, if_neg hk0, ByteArray.data_append, ByteArray.data_append, Array.toList_append, Array.toList_append, hall]
            rw [hn, ba_sz] at hle
            have hq1 : (⟨#[c]⟩ : ByteArray).size = 1 := rfl
            have hcs1 : ¬ 9223372036854775807 < X.size + 1 := by omega
            have hcs2 : ¬ 9223372036854775807 < X.size + 1 + f.size := by rw [ByteArray.size_append, ByteArray.size_append, hq1] at hle; omega
            clear hq1
            have hba : Below wr.heap.size wr (wr.alloc (.cells #[.int .u8 (c.toNat : Int)] 5)) := (Below.refl _ _).alloc (Nat.le_refl _) _
            have h1 := HX.out.next hba
            have HN' : Hid (JsR w l (.slice (some ⟨g, 0, none⟩) l.length cc) c (k + 1) (X ++ (⟨#[c]⟩ : ByteArray) ++ f) (wr.alloc (.cells #[.int .u8 (c.toNat : Int)] 5))) := Lib.hid ⟨h1.row, hn.symm, h1.below⟩
            clear hsu hn hall hxs hba h1 HX hj2
            go_wp2_with fail
            go_roundw
            case rel => exact ⟨k + 1, X ++ (⟨#[c]⟩ : ByteArray) ++ f, by omega, by omega, rfl, by go_num, HN'⟩
            case measure => simp [intOf]; omega
        · have hki : ¬ (k : Int) < (l.length : Int) := by omega
          have hkl : k = l.length := by omega
          subst hkl
          have hall := HX.out.all
          have hj2 : jb (datas l) [c] l.length = s.data.toList := HJ.out
          obtain rfl : X = s := WideShapes.bytes_inj (by rw [hall, hj2])
          have HB := Lib.hid HX.out.below
          clear hall hj2 HX HJ
          go_wp2_with fail
          refine (AW.out _ (HG.out.next HB.out)).mono ?_
          rintro e w3 ⟨rfl, hb3⟩
          have HB3 := Lib.hid (HB.out.trans (hb3.mono HB.out.size))
          clear hb3 HB
          go_wp2_with fail
          go_ret
          exact ⟨rfl, HB3.out⟩
theorem byte_of {a : Int} (h : (Lit.int .u8 a).wf = true) : ∃ c : UInt8, a = (c.toNat : Int) := by
  have h2 : 0 ≤ a ∧ a ≤ 255 := by
    simp [Lit.wf, IntKind.min, IntKind.max, IntKind.signed, IntKind.bits] at h
    omega
  refine ⟨UInt8.ofNat a.toNat, ?_⟩
  rw [UInt8.toNat_ofNat']
  omega
theorem joins_walk (s0 : ByteArray) (c : Int) (w0 : s0.size ≤ maxLen) (w1 : (Lit.int .u8 c).wf = true) (w : World) (G : Gi w) :
    Calls Tryz.prog 4 #[.string s0, .int .u8 c] w fun e w' => e = .returned (.bool true) ∧ Below w.heap.size w w' := by
  obtain ⟨b, rfl⟩ := byte_of w1
  exact joins_in s0 _ b w0 rfl w G
end Go.Proofs.YtllbnbnpcogckaaGreatDoor
