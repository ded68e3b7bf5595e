/-
  CONTRACT of layer 9's appendHex: a text with sixteen digits behind it.
-/
import Derived.Test.YtpcnlojlfbgaoaaRgA
import Derived.Maps.AppendAt
import Derived.OwnWalk
namespace Go.Proofs.Ytpcnlojlfbgaoaa
open Go.RowKit

/-- Of what lay in memory the row of v alone may have turned. -/
structure Grw (row : Option Nat) (w w' : World) : Prop where
  os : w'.os = w.os
  tape : w'.tape = w.tape
  output : w'.output = w.output
  size : w.heap.size ≤ w'.heap.size
  block : ∀ k, k < w.heap.size → row ≠ some k → w'.heap[k]? = w.heap[k]?
theorem Grw.refl (r : Option Nat) (w : World) : Grw r w w := ⟨rfl, rfl, rfl, Nat.le_refl _, fun _ _ _ => rfl⟩
theorem Grw.below {r : Option Nat} {u w w' : World} (h : Grw r u w) (hb : Below w.heap.size w w') : Grw r u w' :=
  ⟨hb.os.trans h.os, hb.tape.trans h.tape, hb.output.trans h.output, Nat.le_trans h.size hb.size, fun k hk hn => (hb.block k (Nat.lt_of_lt_of_le hk h.size)).trans (h.block k hk hn)⟩
theorem Grw.trans {r r2 : Option Nat} {u w w' : World} (h : Grw r u w) (h2 : Grw r2 w w') (hr : r2 = r ∨ ∀ k, r2 = some k → u.heap.size ≤ k) : Grw r u w' :=
  ⟨h2.os.trans h.os, h2.tape.trans h.tape, h2.output.trans h.output, Nat.le_trans h.size h2.size, fun k hk hn => (h2.block k (Nat.lt_of_lt_of_le hk h.size) (fun e => by
    rcases hr with rfl | hr
    · exact hn e
    · have := hr k e; omega)).trans (h.block k hk hn)⟩
theorem Grw.of_grown {r : Option Nat} {w w' : World} (h : w.grownBy w' r) : Grw r w w' := ⟨h.os, h.tape, h.output, h.size, fun k hk hn => h.block k hk (fun e => hn e.symm)⟩
theorem Grw.alloc {r : Option Nat} {u w : World} (h : Grw r u w) (o : Obj) : Grw r u (w.alloc o) := h.below ((Below.refl _ _).alloc (Nat.le_refl _) o)
theorem Grw.toBelow {r : Option Nat} {w w' : World} (h : Grw r w w') (hr : r = none) : Below w.heap.size w w' := ⟨h.os, h.tape, h.output, h.size, fun k hk => h.block k hk (by rw [hr]; simp)⟩
theorem and15 (z : Int) : ∃ n : Nat, n ≤ 15 ∧ bits BinOp.and IntKind.u64 z 15 = (n : Int) := by
  obtain ⟨m, hm, hz⟩ : ∃ m : Nat, m < 18446744073709551616 ∧ BitVec.ofInt 64 z = BitVec.ofInt 64 (m : Int) := by
    refine ⟨(BitVec.ofInt 64 z).toNat, (BitVec.ofInt 64 z).isLt, ?_⟩
    rw [BitVec.ofInt_natCast, BitVec.ofNat_toNat, BitVec.setWidth_eq]
  have e : bits BinOp.and IntKind.u64 z 15 = bits BinOp.and IntKind.u64 (m : Int) ((15 : Nat) : Int) := by
    show IntKind.u64.wrap ((BitVec.ofInt 64 z &&& BitVec.ofInt 64 15).toNat : Int) = IntKind.u64.wrap ((BitVec.ofInt 64 (m : Int) &&& BitVec.ofInt 64 ((15 : Nat) : Int)).toNat : Int)
    rw [hz]; rfl
  exact ⟨m &&& 15, Nat.and_le_right, by rw [e, bits_and_u64_nat m 15 hm (by omega)]⟩
abbrev hexS : ByteArray := { data := #[48, 49, 50, 51, 52, 53, 54, 55, 56, 57, 97, 98, 99, 100, 101, 102] }
/-- A digit of a word. -/
def hexg (x : Int) (k : Nat) : UInt8 := hexS.data.toList.getD (bits BinOp.and IntKind.u64 (x / 2 ^ (60 - 4 * k)) 15).toNat 0
def hexD (x : Int) : List UInt8 := (List.range 16).map (hexg x)
theorem hexg_at (x : Int) (k n : Nat) (h : bits BinOp.and IntKind.u64 (x / 2 ^ (60 - 4 * k)) 15 = (n : Int)) (hn : n < hexS.size) : hexS[n] = hexg x k := by
  unfold hexg
  rw [h, Int.toNat_natCast, List.getD_eq_getElem?_getD, rg_at hexS n hn]
  rfl
/-- A row of bytes that grows: v in w, begun in u, its first row's block `row`. -/
structure RowR (base : Nat) (row : Option Nat) (u : World) (n : Nat) (L : List UInt8) (v : Value) (w : World) : Prop where
  own : w.ownsRow base 5 1 v n (Lib.byteCells L)
  grw : Grw row u w
  blk : v.ownBlock = row ∨ ∀ k, v.ownBlock = some k → u.heap.size ≤ k
def rowPost (base n : Nat) (L : List UInt8) (row : Option Nat) (u : World) (e : Ending) (w' : World) : Prop :=
  ∃ (p : Option Addr) (c : Nat), e = .returned (.slice p n c) ∧ RowR base row u n L (.slice p n c) w'
theorem RowR.step {base : Nat} {row : Option Nat} {u w w9 : World} {n : Nat} {L : List UInt8} {v v9 : Value} {b : UInt8} {lit : Obj} (h : RowR base row u n L v w)
    (hown : w9.ownsRow base 5 1 v9 (n + 1) (Lib.byteCells L ++ [.int .u8 (b.toNat : Int)])) (hg : (w.alloc lit).grownBy w9 v.ownBlock)
    (hat : v9.ownBlock = v.ownBlock ∨ v9.ownBlock = some (w.heap.size + 1)) : RowR base row u (n + 1) (L ++ [b]) v9 w9 := by
  have hs := h.grw.size
  refine ⟨?_, ((h.grw.alloc lit).trans (Grw.of_grown hg) h.blk), ?_⟩
  · rw [Lib.byteCells_append]; exact hown
  · rcases hat with e | e
    · rw [e]; exact h.blk
    · refine .inr fun k hk => ?_
      rw [e] at hk
      have := Option.some.inj hk
      omega
theorem Try.infoB : (Try.prog.info? 5).map (fun i => (i.zero, i.size, i.bytes)) = some (some (.int .u8 0), 1, 1) := by kernel_rfl
set_option maxHeartbeats 4000000 in
theorem rhexd_any (base n : Nat) (L : List UInt8) (row : Option Nat) (p : Option Addr) (c : Nat) (x : Int) (u w : World) (hL : n ≤ 1000000) (h : RowR base row u n L (.slice p n c) w) (hb : base ≤ u.heap.size) :
    Calls Try.prog 21 #[.slice p n c, .int .u64 x] w (rowPost base (n + 16) (L ++ hexD x) row u) := by
  obtain ⟨i0, hi, hz0, hz1, hz2⟩ := info_parts Try.infoB
  have H0 : Hid (RowR base row u (n + 0) (L ++ (List.range 0).map (hexg x)) (.slice p n c) w) := Lib.hid (by simpa using h)
  clear h
  go_enter Try.func21, Try.ntmps21
  go_wp2
  go_loopw [0, 6] (fun ov iv wr => ∃ (k : Nat) (p' : Option Addr) (c' : Nat), k ≤ 16 ∧ ov = .slice p' (n + k) c' ∧ iv = .int .i64 (k : Int) ∧ Hid (RowR base row u (n + k) (L ++ (List.range k).map (hexg x)) (.slice p' (n + k) c') wr)) (fun _ iv _ => 16 - (intOf iv).toNat)
  case atStart => exact ⟨0, p, c, by omega, rfl, rfl, H0⟩
  case round =>
    clear H0
    obtain ⟨k, p', c', hk, rfl, rfl, HO⟩ := hrel
    by_cases hlt : k < 16
    · have hki : (k : Int) < 16 := by omega
      have hk0 : 0 ≤ (k : Int) := by omega
      obtain ⟨d, hd15, hd⟩ := and15 (x / 2 ^ (60 - 4 * k))
      have hdz : d < hexS.size := by show d < 16; omega
      have hg := hexg_at x k d hd hdz
      have hdi : (d : Int) < 16 := by omega
      obtain ⟨hc, hhc⟩ : ∃ hc, hexg x k = hc := ⟨_, rfl⟩
      rw [hhc] at hg
      have HHC := Lib.hid hhc
      have HSZ : Hid (base ≤ wr.heap.size) := Lib.hid (Nat.le_trans hb HO.out.grw.size)
      clear hhc
      go_wp2_with (at_builtin; refine wpList_append_own_at _ rfl (.tmp 9) (.tmp 17) 49 rfl base 5 i0 (.int .u8 0) 1 1 Try.underlying49 hi hz0 hz1 hz2 rfl (by decide) (.slice p' (n + k) c') (n + k) (Lib.byteCells (L ++ (List.range k).map (hexg x))) rfl (HO.out.own.alloc _) ⟨wr.heap.size, 0, none⟩ 1 1 [.int .u8 (hc.toNat : Int)] rfl rfl ?c1 ?c2 ?c3 ?c4 ?c5 ?_)
      case c1 => exact cell_one_new _ _ _
      case c2 => simp [Value.oneCell']
      case c3 => unfold maxLen; omega
      case c4 => omega
      case c5 => have := HSZ.out; simp; omega
      intro v9 w9 hown9 hgrow9 _ hat9
      obtain ⟨g9, c9, rfl, hc9⟩ := rg_own_succ hown9
      have HR := Lib.hid (HO.out.step hown9 hgrow9 hat9)
      clear hown9 hgrow9 hat9
      go_wp2_with fail
      go_round
      case measure => simp [intOf]; omega
      case rel =>
        refine ⟨k + 1, _, _, by omega, rfl, by simp, ?_⟩
        have := HR.out
        rw [← HHC.out, List.append_assoc] at this
        rw [List.range_succ, List.map_append]
        exact Lib.hid this
    · obtain rfl : k = 16 := by omega
      have hki : ¬ ((16 : Nat) : Int) < 16 := by omega
      go_wp2
      go_ret
      exact ⟨_, _, rfl, HO.out⟩
end Go.Proofs.Ytpcnlojlfbgaoaa
