/-
  CONTRACTS of layer 12's Print and of the laws' own awake.
-/
import Derived.Test.YtgahamppfdhnaaaDoorAsPr
import Derived.Test.YtgahamppfdhnaaaDoorAsSize
namespace Go.Proofs.YtgahamppfdhnaaaDoor
open Go.RowKit

mutual
theorem print_any : ∀ a : AT, PrOk a
  | .mk op tx pl kp kc g o ks => print_one (.mk op tx pl kp kc g o ks) (printAL ks)
theorem printAL : ∀ (l : List AT), ∀ k ∈ l, PrOk k
  | [], k, h => by cases h
  | a :: l, k, h => by
    rcases List.mem_cons.1 h with h | h
    · rw [h]; exact print_any a
    · exact printAL l k h
end
theorem printL_pos (t : T) : ∃ n, (printL t).length = n + 1 := by
  obtain ⟨op, tx, pl, ks⟩ := t
  rw [printL]
  exact ⟨_, rfl⟩
theorem as_byteCells_get (L : List UInt8) (j : Nat) (hj : j < L.length) : (Lib.byteCells L)[j]? = some (.int .u8 (L[j].toNat : Int)) := by
  unfold Lib.byteCells
  simp [hj]
set_option maxHeartbeats 4000000 in
theorem Print_any (n : Nd) (t : T) (b : Nat) (w : World) (h : VT w b n t) (hn : (printL t).length ≤ 1000000) (htab : Lib.TabBelow Tryd.prog w.heap.size w "internal/strconv.uint64pow10" .u64 Lib.pow10Tab) :
    Calls Tryd.prog 11 #[n.val] w fun e w' => e = .returned (.string ⟨(printL t).toArray⟩) ∧ Below w.heap.size w w' := by
  obtain ⟨ks, h1, rfl⟩ := h
  obtain ⟨op, tx, pl, kp, kn, kc⟩ := n
  obtain rfl : kn = ks.length := h1.len
  have ha : er (.mk op tx pl kp kc 0 0 ks) = Nd.t ⟨op, tx, pl, kp, ks.length, kc⟩ ks := by rw [er, Nd.t]
  have HC : Hid (∀ W, Below w.heap.size w W → Calls Tryd.prog 23 #[.agg #[.string op, .string tx, .int .i64 pl, .slice kp ks.length kc], .slice none 0 0] W (PrPost w.heap.size (printL (Nd.t ⟨op, tx, pl, kp, ks.length, kc⟩ ks)).length (printL (Nd.t ⟨op, tx, pl, kp, ks.length, kc⟩ ks)) W)) := Lib.hid fun W hW => by
    have := print_any (.mk op tx pl kp kc 0 0 ks) w.heap.size 0 [] none 0 W (fun g => g < w.heap.size) (h1.kept (fun g _ hl => hW.block g hl) (fun g _ hl => hl)) (fun g hg => hg) hW.size (by rw [ha]; omega) (World.ownsRow_nil W _ _ 1) (fun W' h' => htab W' (hW.trans h'))
    rw [ha] at this
    simpa [AT.nd, Nd.val] using this
  obtain ⟨q, hq⟩ := printL_pos (Nd.t ⟨op, tx, pl, kp, ks.length, kc⟩ ks)
  generalize printL (Nd.t ⟨op, tx, pl, kp, ks.length, kc⟩ ks) = M at *
  have HQ := Lib.hid hq
  clear h1 hn hq ha htab
  go_enter Tryd.func11, Tryd.ntmps11
  simp only [Nd.val]
  go_wp2_with (with_reducible refine (HC.out _ ?hb).mono ?_)
  case hb => exact (Below.refl _ _).alloc (Nat.le_refl _) _
  rintro e w3 ⟨p3, c3, rfl, hR3⟩
  have ho := hR3.own
  rw [HQ.out] at ho
  obtain ⟨g3, c4, e4⟩ := as_succ ho
  simp only [Value.slice.injEq] at e4
  obtain ⟨rfl, _, rfl⟩ := e4
  have hcv := run_convert_bytes_back (P := Tryd.prog) w3 56 9 5 ⟨g3, 0, none⟩ c3 M Tryd.underlying56 Tryd.underlying5 Tryd.underlying9 (fun j hj => by
    rw [← as_byteCells_get _ j hj, ← hR3.own.cellAt j (by simpa [Lib.byteCells] using hj)]
    by_cases h0 : j = 0 <;> simp [Addr.add, h0])
  have HB3 : Hid (Below w.heap.size w w3) := Lib.hid (Below.trans ((Below.refl _ _).alloc (Nat.le_refl _) _) hR3.bel)
  clear hR3 ho
  go_wp2_with fail
  go_ret
  exact ⟨rfl, HB3.out⟩
theorem size_of (n : Nd) (t : T) (b : Nat) (w : World) (h : VT w b n t) (hz : t.size ≤ 1000) :
    Calls Tryd.prog 17 #[n.val] w fun e w' => e = .returned (.int .i64 (t.size : Int)) ∧ Below w.heap.size w w' := by
  obtain ⟨ks, h1, rfl⟩ := h
  exact size_any n ks _ w h1 (by omega)
theorem depth_of (n : Nd) (t : T) (b : Nat) (w : World) (h : VT w b n t) (hz : t.size ≤ 1000) :
    Calls Tryd.prog 18 #[n.val] w fun e w' => e = .returned (.int .i64 (t.depth : Int)) ∧ Below w.heap.size w w' := by
  obtain ⟨ks, h1, rfl⟩ := h
  exact depth_any n ks _ w h1 (by omega)
def sN : ByteArray := ⟨#[110, 117, 109]⟩
def sV : ByteArray := ⟨#[118, 97, 114]⟩
def sA : ByteArray := ⟨#[97, 100, 100]⟩
def s1 : ByteArray := ⟨#[49]⟩
def sB : ByteArray := ⟨#[97, 98]⟩
def s0 : ByteArray := ⟨#[]⟩
def awT : T := .mk sA s0 0 [.mk sN s1 0 [], .mk sV sB 0 []]
theorem awT_print : (⟨(printL awT).toArray⟩ : ByteArray) = ⟨#[40, 97, 100, 100, 32, 40, 110, 117, 109, 32, 49, 58, 49, 41, 32, 40, 118, 97, 114, 32, 50, 58, 97, 98, 41, 41]⟩ := by
  have e1 : Lib.itoa ((1 : Nat) : Int) = [49] := by decide +kernel
  have e2 : Lib.itoa ((2 : Nat) : Int) = [50] := by decide +kernel
  have z1 : s1.size = 1 := rfl
  have z2 : sB.size = 2 := rfl
  have z0 : s0.size = 0 := rfl
  simp only [awT, printL, kidsL, textL, z0, z1, z2, e1, e2]
  rfl
theorem awT_size : awT.size = 3 := by simp [awT, T.size, sizeL]
theorem awT_depth : awT.depth = 2 := by simp [awT, T.depth, depthL]
set_option maxHeartbeats 4000000 in
set_option maxRecDepth 100000 in
theorem awake_any (w : World) (htab : Lib.TabBelow Tryd.prog w.heap.size w "internal/strconv.uint64pow10" .u64 Lib.pow10Tab) :
    Calls Tryd.prog 10 #[] w fun e w' => e = .returned (.bool true) ∧ Below w.heap.size w w' := by
  have hb2 : Below w.heap.size w ((w.alloc (.cells #[.string ⟨#[110, 117, 109]⟩, .string ⟨#[49]⟩, .int .i64 0, .slice none 0 0, .string ⟨#[118, 97, 114]⟩, .string ⟨#[97, 98]⟩, .int .i64 0, .slice none 0 0] 25)).alloc (.cells #[.string ⟨#[97, 100, 100]⟩, .string ⟨#[]⟩, .int .i64 0, .slice (some ⟨w.heap.size, 0, none⟩) 2 2] 25)) := ((Below.refl _ _).alloc (Nat.le_refl _) _).alloc (by simp) _
  have hv : VT ((w.alloc (.cells #[.string ⟨#[110, 117, 109]⟩, .string ⟨#[49]⟩, .int .i64 0, .slice none 0 0, .string ⟨#[118, 97, 114]⟩, .string ⟨#[97, 98]⟩, .int .i64 0, .slice none 0 0] 25)).alloc (.cells #[.string ⟨#[97, 100, 100]⟩, .string ⟨#[]⟩, .int .i64 0, .slice (some ⟨w.heap.size, 0, none⟩) 2 2] 25)) w.heap.size ⟨sA, s0, 0, some ⟨w.heap.size, 0, none⟩, 2, 2⟩ awT := by
    refine ⟨[.mk sN s1 0 none 0 w.heap.size 0 [], .mk sV sB 0 none 0 w.heap.size 4 []], ⟨rfl, .inr ⟨w.heap.size, 0, rfl, fun i hi => ?_⟩, ?_⟩, ?_⟩
    · match i, hi with
      | 0, _ => exact ⟨rfl, rfl⟩
      | 1, _ => exact ⟨rfl, rfl⟩
    · refine MemL.cons.2 ⟨Mem.iff.2 ⟨Nat.le_refl _, ⟨?_, ?_, ?_, ?_⟩, .inl rfl, MemL.nil _ _⟩, MemL.cons.2 ⟨Mem.iff.2 ⟨Nat.le_refl _, ⟨?_, ?_, ?_, ?_⟩, .inl rfl, MemL.nil _ _⟩, MemL.nil _ _⟩⟩
      all_goals simp [go_sem, AT.g, AT.o, AT.nd, sN, sV, s1, sB]
    · simp [Nd.t, erL, er, awT]
  have hsz : ((w.alloc (.cells #[.string ⟨#[110, 117, 109]⟩, .string ⟨#[49]⟩, .int .i64 0, .slice none 0 0, .string ⟨#[118, 97, 114]⟩, .string ⟨#[97, 98]⟩, .int .i64 0, .slice none 0 0] 25)).alloc (.cells #[.string ⟨#[97, 100, 100]⟩, .string ⟨#[]⟩, .int .i64 0, .slice (some ⟨w.heap.size, 0, none⟩) 2 2] 25)).heap.size = w.heap.size + 2 := by simp
  have hn2 : NodeAt ((w.alloc (.cells #[.string ⟨#[110, 117, 109]⟩, .string ⟨#[49]⟩, .int .i64 0, .slice none 0 0, .string ⟨#[118, 97, 114]⟩, .string ⟨#[97, 98]⟩, .int .i64 0, .slice none 0 0] 25)).alloc (.cells #[.string ⟨#[97, 100, 100]⟩, .string ⟨#[]⟩, .int .i64 0, .slice (some ⟨w.heap.size, 0, none⟩) 2 2] 25)) (w.heap.size + 1) 0 ⟨sA, s0, 0, some ⟨w.heap.size, 0, none⟩, 2, 2⟩ := by
    constructor <;> simp [go_sem, sA, s0]
  have HT := Lib.hid htab
  have HB2 := Lib.hid hb2
  have HV := Lib.hid hv
  have HN := Lib.hid hn2
  clear htab hb2 hv hn2
  go_enter Tryd.func10, Tryd.ntmps10
  go_wp2_with fail
  generalize (w.alloc (.cells #[.string ⟨#[110, 117, 109]⟩, .string ⟨#[49]⟩, .int .i64 0, .slice none 0 0, .string ⟨#[118, 97, 114]⟩, .string ⟨#[97, 98]⟩, .int .i64 0, .slice none 0 0] 25)).alloc (.cells #[.string ⟨#[97, 100, 100]⟩, .string ⟨#[]⟩, .int .i64 0, .slice (some ⟨w.heap.size, 0, none⟩) 2 2] 25) = W2 at *
  have C1 := Print_any ⟨sA, s0, 0, some ⟨w.heap.size, 0, none⟩, 2, 2⟩ awT _ W2 HV.out (by
    have h := congrArg (fun b : ByteArray => b.data.size) awT_print
    have h2 : (printL awT).length = 26 := by simpa using h
    omega) (fun W' h' => HT.out W' (HB2.out.trans (h'.mono HB2.out.size)))
  rw [awT_print] at C1
  refine C1.mono ?_
  rintro e w3 ⟨rfl, hb3⟩
  have HB3 := Lib.hid (HB2.out.trans (hb3.mono HB2.out.size))
  have HV3 := Lib.hid (HV.out.next hb3)
  have hn3 := HN.out.kept (hb3.block _ HN.out.lt)
  have HN3 := Lib.hid hn3
  obtain ⟨x0, x1, x2, x3⟩ := hn3
  have C2 := Lib.hid (size_of _ _ _ w3 HV3.out (by rw [awT_size]; omega))
  rw [awT_size] at C2
  simp only [Nd.val, sA, s0] at x0 x1 x2 x3 C2
  clear hb3 HB2 HV HN C1
  go_wp2_with fail
  refine C2.out.mono ?_
  rintro e w4 ⟨rfl, hb4⟩
  have HB4 := Lib.hid (HB3.out.trans (hb4.mono HB3.out.size))
  obtain ⟨x0, x1, x2, x3⟩ := HN3.out.kept (hb4.block _ HN3.out.lt)
  have C3 := Lib.hid (depth_of _ _ _ w4 (HV3.out.next hb4) (by rw [awT_size]; omega))
  rw [awT_depth] at C3
  simp only [Nd.val, sA, s0] at x0 x1 x2 x3 C3
  clear hb4 HB3 HV3 HN3 C2
  go_wp2_with fail
  refine C3.out.mono ?_
  rintro e w5 ⟨rfl, hb5⟩
  have HB5 := Lib.hid (HB4.out.trans (hb5.mono HB4.out.size))
  clear hb5
  go_wp2_with fail
  go_ret
  exact ⟨rfl, HB5.out⟩
end Go.Proofs.YtgahamppfdhnaaaDoor
