/-
  CONTRACT of the document's own Bytes: the bytes that a text has, or has not, rising (a copy of XRgRf1 and of what it leans on, for a seat without Print).
-/
import Derived.Test.YtjjejcgpeefclaaDoorMtC2
import Derived.Test.YtjjejcgpeefclaaDoorRgQ
import Derived.Maps.AppendAt
import Derived.OwnWalk
import Derived.WalkMore
import Derived.ScopeJumps
import Derived.Deep.RegionHeld3
import Derived.Lib.MinMax
namespace Go.Proofs.YtjjejcgpeefclaaDoor
open Go.RowKit

/-- Of what lay in memory the row of v alone may have turned. -/
structure Grw (row : Option Nat) (w w' : World) : Prop where
  os : w'.os = w.os
  tape : w'.tape = w.tape
  output : w'.output = w.output
  size : w.heap.size ≤ w'.heap.size
  block : ∀ k, k < w.heap.size → row ≠ some k → w'.heap[k]? = w.heap[k]?
theorem Grw.refl (r : Option Nat) (w : World) : Grw r w w := ⟨rfl, rfl, rfl, Nat.le_refl _, fun _ _ _ => rfl⟩
theorem Grw.below {r : Option Nat} {u w w' : World} (h : Grw r u w) (hb : Below w.heap.size w w') : Grw r u w' :=
  ⟨hb.os.trans h.os, hb.tape.trans h.tape, hb.output.trans h.output, Nat.le_trans h.size hb.size, fun k hk hn => (hb.block k (Nat.lt_of_lt_of_le hk h.size)).trans (h.block k hk hn)⟩
theorem Grw.trans {r r2 : Option Nat} {u w w' : World} (h : Grw r u w) (h2 : Grw r2 w w') (hr : r2 = r ∨ ∀ k, r2 = some k → u.heap.size ≤ k) : Grw r u w' :=
  ⟨h2.os.trans h.os, h2.tape.trans h.tape, h2.output.trans h.output, Nat.le_trans h.size h2.size, fun k hk hn => (h2.block k (Nat.lt_of_lt_of_le hk h.size) (fun e => by
    rcases hr with rfl | hr
    · exact hn e
    · have := hr k e; omega)).trans (h.block k hk hn)⟩
theorem Grw.of_grown {r : Option Nat} {w w' : World} (h : w.grownBy w' r) : Grw r w w' := ⟨h.os, h.tape, h.output, h.size, fun k hk hn => h.block k hk (fun e => hn e.symm)⟩
theorem Grw.alloc {r : Option Nat} {u w : World} (h : Grw r u w) (o : Obj) : Grw r u (w.alloc o) := h.below ((Below.refl _ _).alloc (Nat.le_refl _) o)
theorem Grw.toBelow {r : Option Nat} {w w' : World} (h : Grw r w w') (hr : r = none) : Below w.heap.size w w' := ⟨h.os, h.tape, h.output, h.size, fun k hk => h.block k hk (by rw [hr]; simp)⟩
theorem and15 (z : Int) : ∃ n : Nat, n ≤ 15 ∧ bits BinOp.and IntKind.u64 z 15 = (n : Int) := by
  obtain ⟨m, hm, hz⟩ : ∃ m : Nat, m < 18446744073709551616 ∧ BitVec.ofInt 64 z = BitVec.ofInt 64 (m : Int) := by
    refine ⟨(BitVec.ofInt 64 z).toNat, (BitVec.ofInt 64 z).isLt, ?_⟩
    rw [BitVec.ofInt_natCast, BitVec.ofNat_toNat, BitVec.setWidth_eq]
  have e : bits BinOp.and IntKind.u64 z 15 = bits BinOp.and IntKind.u64 (m : Int) ((15 : Nat) : Int) := by
    show IntKind.u64.wrap ((BitVec.ofInt 64 z &&& BitVec.ofInt 64 15).toNat : Int) = IntKind.u64.wrap ((BitVec.ofInt 64 (m : Int) &&& BitVec.ofInt 64 ((15 : Nat) : Int)).toNat : Int)
    rw [hz]; rfl
  exact ⟨m &&& 15, Nat.and_le_right, by rw [e, bits_and_u64_nat m 15 hm (by omega)]⟩
abbrev hexS : ByteArray := { data := #[48, 49, 50, 51, 52, 53, 54, 55, 56, 57, 97, 98, 99, 100, 101, 102] }
/-- A digit of a word. -/
def hexg (x : Int) (k : Nat) : UInt8 := hexS.data.toList.getD (bits BinOp.and IntKind.u64 (x / 2 ^ (60 - 4 * k)) 15).toNat 0
def hexD (x : Int) : List UInt8 := (List.range 16).map (hexg x)
theorem hexg_at (x : Int) (k n : Nat) (h : bits BinOp.and IntKind.u64 (x / 2 ^ (60 - 4 * k)) 15 = (n : Int)) (hn : n < hexS.size) : hexS[n] = hexg x k := by
  unfold hexg
  rw [h, Int.toNat_natCast, List.getD_eq_getElem?_getD, rg_at hexS n hn]
  rfl
/-- A row of bytes that grows: v in w, begun in u, its first row's block `row`. -/
structure RowR (base : Nat) (row : Option Nat) (u : World) (n : Nat) (L : List UInt8) (v : Value) (w : World) : Prop where
  own : w.ownsRow base 5 1 v n (Lib.byteCells L)
  grw : Grw row u w
  blk : v.ownBlock = row ∨ ∀ k, v.ownBlock = some k → u.heap.size ≤ k
def rowPost (base n : Nat) (L : List UInt8) (row : Option Nat) (u : World) (e : Ending) (w' : World) : Prop :=
  ∃ (p : Option Addr) (c : Nat), e = .returned (.slice p n c) ∧ RowR base row u n L (.slice p n c) w'
theorem RowR.step {base : Nat} {row : Option Nat} {u w w9 : World} {n : Nat} {L : List UInt8} {v v9 : Value} {b : UInt8} {lit : Obj} (h : RowR base row u n L v w)
    (hown : w9.ownsRow base 5 1 v9 (n + 1) (Lib.byteCells L ++ [.int .u8 (b.toNat : Int)])) (hg : (w.alloc lit).grownBy w9 v.ownBlock)
    (hat : v9.ownBlock = v.ownBlock ∨ v9.ownBlock = some (w.heap.size + 1)) : RowR base row u (n + 1) (L ++ [b]) v9 w9 := by
  have hs := h.grw.size
  refine ⟨?_, ((h.grw.alloc lit).trans (Grw.of_grown hg) h.blk), ?_⟩
  · rw [Lib.byteCells_append]; exact hown
  · rcases hat with e | e
    · rw [e]; exact h.blk
    · refine .inr fun k hk => ?_
      rw [e] at hk
      have := Option.some.inj hk
      omega
theorem Tryd.infoB : (Tryd.prog.info? 5).map (fun i => (i.zero, i.size, i.bytes)) = some (some (.int .u8 0), 1, 1) := by kernel_rfl
theorem RowR.start {base n : Nat} {L : List UInt8} {v : Value} {w : World} (h : w.ownsRow base 5 1 v n (Lib.byteCells L)) : RowR base v.ownBlock w n L v w :=
  ⟨h, Grw.refl _ _, .inl rfl⟩
theorem RowR.below {base n : Nat} {row : Option Nat} {L : List UInt8} {v : Value} {u w w1 : World} (h : RowR base row u n L v w) (hb : Below w.heap.size w w1) : RowR base row u n L v w1 :=
  ⟨rg_own_kept h.own (fun g hg => hb.block g (rg_own_base h.own g hg).2), h.grw.below hb, h.blk⟩
/-- Two rows' growings one behind the other. -/
theorem RowR.next {base n n' : Nat} {row : Option Nat} {L L' : List UInt8} {v v' : Value} {u w w1 w' : World} (h : RowR base row u n L v w) (hb : Below w.heap.size w w1) (h2 : RowR base v.ownBlock w1 n' L' v' w') : RowR base row u n' L' v' w' := by
  have h1 := h.grw.below hb
  refine ⟨h2.own, h1.trans h2.grw h.blk, ?_⟩
  rcases h2.blk with e | e
  · rw [e]; exact h.blk
  · have := h1.size
    exact .inr fun k hk => Nat.le_trans this (e k hk)
theorem Grw.lt {r : Option Nat} {u w : World} (h : Grw r u w) {k : Nat} (hk : k < u.heap.size) : k < w.heap.size := Nat.lt_of_lt_of_le hk h.size
theorem byteCells_get (L : List UInt8) (j : Nat) (hj : j < L.length) : (Lib.byteCells L)[j]? = some (.int .u8 (L[j].toNat : Int)) := by
  unfold Lib.byteCells
  simp [hj]
def hasC (l : List UInt8) (c : Nat) : Bool := l.any (fun b => b.toNat == c)
def bytesN (l : List UInt8) (nt : Bool) (k : Nat) : List UInt8 := ((List.range k).filter (fun c => hasC l c != nt)).map UInt8.ofNat
theorem bytesN_len (l : List UInt8) (nt : Bool) (k : Nat) : (bytesN l nt k).length ≤ k := by
  unfold bytesN
  rw [List.length_map]
  exact Nat.le_trans (List.length_filter_le _ _) (by simp)
theorem bytesN_yes {l : List UInt8} {nt : Bool} {k : Nat} (h : (hasC l k != nt) = true) : bytesN l nt (k + 1) = bytesN l nt k ++ [UInt8.ofNat k] := by
  unfold bytesN
  rw [List.range_succ, List.filter_append, List.map_append]
  simp [h]
theorem bytesN_no {l : List UInt8} {nt : Bool} {k : Nat} (h : (hasC l k != nt) = false) : bytesN l nt (k + 1) = bytesN l nt k := by
  unfold bytesN
  rw [List.range_succ, List.filter_append, List.map_append]
  simp [h]
theorem hasC_take (s : ByteArray) (c k : Nat) (h : k < s.size) : hasC (s.data.toList.take (k + 1)) c = (hasC (s.data.toList.take k) c || (s[k].toNat == c)) := by
  unfold hasC
  rw [List.take_succ_eq_append_getElem (by simpa using h), List.any_append]
  simp
  rfl
set_option maxHeartbeats 4000000 in
theorem rbytes_any (s : ByteArray) (nt : Bool) (hs : s.size ≤ 1000000) (w : World) :
    Calls Tryd.prog 68 #[.string s, .bool nt] w fun e w' => e = .returned (.string ⟨(bytesN s.data.toList nt 256).toArray⟩) ∧ Below w.heap.size w w' := by
  obtain ⟨i0, hi, hz0, hz1, hz2⟩ := info_parts Tryd.infoB
  have hlit := World.ownsRow_lit (base := w.heap.size) (e := 5) (size := 1) w #[] 0 (Nat.le_refl _) (by decide) rfl
  have H0 : Hid (RowR w.heap.size (some w.heap.size) (w.alloc (.cells #[] 5)) 0 (bytesN s.data.toList nt 0) (.slice (some ⟨w.heap.size, 0, none⟩) 0 0) (w.alloc (.cells #[] 5))) := Lib.hid ⟨hlit, Grw.refl _ _, .inl rfl⟩
  clear hlit
  go_enter Tryd.func68, Tryd.ntmps68
  go_wp2_with fail
  go_loopw [5, 6] (fun ov iv wr => ∃ (k m g c : Nat), k ≤ 256 ∧ m ≤ k ∧ ov = .slice (some ⟨g, 0, none⟩) m c ∧ iv = .int .i64 (k : Int) ∧ Hid (m = (bytesN s.data.toList nt k).length) ∧ Hid (RowR w.heap.size (some w.heap.size) (w.alloc (.cells #[] 5)) m (bytesN s.data.toList nt k) (.slice (some ⟨g, 0, none⟩) m c) wr)) (fun _ iv _ => 256 - (intOf iv).toNat)
  case atStart => exact ⟨0, 0, _, _, by omega, by omega, rfl, rfl, Lib.hid rfl, H0⟩
  case round =>
    obtain ⟨k, m, g, c, hk, hmk, rfl, rfl, HM, HO⟩ := hrel
    clear H0
    by_cases hlt : k < 256
    · have hki : (k : Int) < 256 := by omega
      have hk0 : 0 ≤ (k : Int) := by omega
      go_wp2_with fail
      go_loopw [7, 8] (fun bv jv wx => ∃ j : Nat, j ≤ s.size ∧ bv = .bool (hasC (s.data.toList.take j) k) ∧ jv = .int .i64 (j : Int) ∧ wx = wr) (fun _ jv _ => s.size - (intOf jv).toNat)
      case atStart => exact ⟨0, Nat.zero_le _, rfl, rfl, rfl⟩
      case round =>
        obtain ⟨j, hj, rfl, rfl, rfl⟩ := hrel
        by_cases hjl : j < s.size
        · have hji : (j : Int) < (s.size : Int) := by omega
          have hj0 : 0 ≤ (j : Int) := by omega
          have HTK := Lib.hid (hasC_take s k j hjl)
          obtain ⟨b, hb⟩ : ∃ b, hasC (s.data.toList.take j) k = b := ⟨_, rfl⟩
          rw [hb] at HTK ⊢
          have hcb := s[j].toNat_lt
          obtain ⟨x, hx⟩ : ∃ x, s[j] = x := ⟨_, rfl⟩
          rw [hx] at HTK hcb
          clear hb
          cases b with
          | true =>
            go_wp2_with fail
            refine ⟨⟨j + 1, by omega, by rw [HTK.out]; rfl, by simp, trivial⟩, ?_⟩
            simp [intOf]; omega
          | false =>
            by_cases he : x.toNat = k
            · have hbe : ((x.toNat : Int) == (k : Int)) = true := by rw [he]; simp
              have HBE : Hid ((x.toNat == k) = true) := Lib.hid (by simpa using he)
              clear he
              go_wp2_with fail
              refine ⟨⟨j + 1, by omega, by rw [HTK.out, HBE.out]; simp, by simp, trivial⟩, ?_⟩
              simp [intOf]; omega
            · have hbe : ((x.toNat : Int) == (k : Int)) = false := by rw [Bool.eq_false_iff]; intro h; exact he (by have h2 : (x.toNat : Int) = k := (by simpa using h); omega)
              have HBE : Hid ((x.toNat == k) = false) := Lib.hid (by simpa using he)
              clear he
              go_wp2_with fail
              refine ⟨⟨j + 1, by omega, by rw [HTK.out, HBE.out]; simp, by simp, trivial⟩, ?_⟩
              simp [intOf]; omega
        · have hji : ¬ (j : Int) < (s.size : Int) := by omega
          have htk : s.data.toList.take j = s.data.toList := List.take_of_length_le (by simp; omega)
          rw [htk]
          clear htk
          obtain ⟨b, hb⟩ : ∃ b, hasC s.data.toList k = b := ⟨_, rfl⟩
          rw [hb]
          rcases b with _ | _ <;> rcases nt with _ | _
          · have HY := Lib.hid (bytesN_no (l := s.data.toList) (nt := false) (k := k) (by rw [hb]; rfl))
            clear hb
            go_wp2_with fail
            refine ⟨⟨k + 1, m, g, c, by omega, by omega, rfl, by simp, Lib.hid ?_, Lib.hid ?_⟩, ?_⟩
            · rw [HY.out]; exact HM.out
            · rw [HY.out]; exact HO.out
            · simp [intOf]; omega
          · have HY := Lib.hid (bytesN_yes (l := s.data.toList) (nt := true) (k := k) (by rw [hb]; rfl))
            clear hb
            go_wp2_with (at_builtin; refine wpList_append_own_at _ rfl (.tmp 32) (.tmp 35) 130 rfl w.heap.size 5 i0 (.int .u8 0) 1 1 Tryd.underlying130 hi hz0 hz1 hz2 rfl (by decide) (.slice (some ⟨g, 0, none⟩) m c) m (Lib.byteCells (bytesN s.data.toList true k)) rfl (HO.out.own.alloc _) ⟨wr.heap.size, 0, none⟩ 1 1 [.int .u8 (k : Int)] rfl rfl ?p1 ?p2 ?p3 ?p4 ?p5 ?_)
            try (case p1 => exact cell_one_new _ _ _)
            case p2 => simp [Value.oneCell']
            case p3 => unfold maxLen; omega
            case p4 => omega
            case p5 => have := HO.out.grw.size; simp at this ⊢; omega
            intro v2 w2 hown2 hgrow2 _ hat2
            obtain ⟨g2, c2, rfl, hc2⟩ := rg_own_succ hown2
            have hkn : ((UInt8.ofNat k).toNat : Int) = (k : Int) := by rw [UInt8.toNat_ofNat']; omega
            have HR := Lib.hid (HO.out.step (b := UInt8.ofNat k) (by rw [hkn]; exact hown2) hgrow2 (by simpa using hat2))
            clear hown2 hgrow2 hat2 hkn
            go_wp2_with fail
            refine ⟨⟨k + 1, m + 1, g2, c2, by omega, by omega, rfl, by simp, Lib.hid ?_, Lib.hid ?_⟩, ?_⟩
            · rw [HY.out, List.length_append, ← HM.out]; rfl
            · rw [HY.out]; exact HR.out
            · simp [intOf]; omega
          · have HY := Lib.hid (bytesN_yes (l := s.data.toList) (nt := false) (k := k) (by rw [hb]; rfl))
            clear hb
            go_wp2_with (at_builtin; refine wpList_append_own_at _ rfl (.tmp 32) (.tmp 35) 130 rfl w.heap.size 5 i0 (.int .u8 0) 1 1 Tryd.underlying130 hi hz0 hz1 hz2 rfl (by decide) (.slice (some ⟨g, 0, none⟩) m c) m (Lib.byteCells (bytesN s.data.toList false k)) rfl (HO.out.own.alloc _) ⟨wr.heap.size, 0, none⟩ 1 1 [.int .u8 (k : Int)] rfl rfl ?q1 ?q2 ?q3 ?q4 ?q5 ?_)
            try (case q1 => exact cell_one_new _ _ _)
            case q2 => simp [Value.oneCell']
            case q3 => unfold maxLen; omega
            case q4 => omega
            case q5 => have := HO.out.grw.size; simp at this ⊢; omega
            intro v2 w2 hown2 hgrow2 _ hat2
            obtain ⟨g2, c2, rfl, hc2⟩ := rg_own_succ hown2
            have hkn : ((UInt8.ofNat k).toNat : Int) = (k : Int) := by rw [UInt8.toNat_ofNat']; omega
            have HR := Lib.hid (HO.out.step (b := UInt8.ofNat k) (by rw [hkn]; exact hown2) hgrow2 (by simpa using hat2))
            clear hown2 hgrow2 hat2 hkn
            go_wp2_with fail
            refine ⟨⟨k + 1, m + 1, g2, c2, by omega, by omega, rfl, by simp, Lib.hid ?_, Lib.hid ?_⟩, ?_⟩
            · rw [HY.out, List.length_append, ← HM.out]; rfl
            · rw [HY.out]; exact HR.out
            · simp [intOf]; omega
          · have HY := Lib.hid (bytesN_no (l := s.data.toList) (nt := true) (k := k) (by rw [hb]; rfl))
            clear hb
            go_wp2_with fail
            refine ⟨⟨k + 1, m, g, c, by omega, by omega, rfl, by simp, Lib.hid ?_, Lib.hid ?_⟩, ?_⟩
            · rw [HY.out]; exact HM.out
            · rw [HY.out]; exact HO.out
            · simp [intOf]; omega
    · obtain rfl : k = 256 := by omega
      have hki : ¬ ((256 : Nat) : Int) < 256 := by omega
      have hB3 : Below w.heap.size w wr := by
        have h9 := HO.out.grw
        refine ⟨h9.os, h9.tape, h9.output, by have := h9.size; simp at this; omega, fun q hq => (h9.block q (by simp; omega) (fun e => by have := Option.some.inj e; omega)).trans (Below.heap_alloc w _ q hq)⟩
      have hcv := run_convert_bytes_back (P := Tryd.prog) wr 130 9 5 ⟨g, 0, none⟩ c (bytesN s.data.toList nt 256) Tryd.underlying130 Tryd.underlying5 Tryd.underlying9 (fun j hj => by
        rw [← byteCells_get _ j hj, ← HO.out.own.cellAt j (by have h := HM.out; omega)]
        by_cases h0 : j = 0 <;> simp [Addr.add, h0])
      rw [← HM.out] at hcv
      have HB3 := Lib.hid hB3
      clear hB3
      go_wp2_with fail
      go_ret
      exact ⟨rfl, HB3.out⟩
end Go.Proofs.YtjjejcgpeefclaaDoor
