/-
  THE WAY THROUGH A TREE: CONTRACT of layer 12's visit, each.
-/
import Derived.Test.YtgahamppfdhnaaaDoorAsM
import Derived.Test.YtgahamppfdhnaaaDoorSeqQ
import Derived.WalkMore
import Derived.ScopeJumps
import Derived.LoopIn
import Derived.LoopNIn
import Derived.OwnWalkIn
import Derived.RegionIn
import Derived.Shelf.Abstract
import Derived.Shelf.RegionOpen
import Derived.Sort.QuietTacIn
import Derived.TacticsInMore
namespace Go.Proofs.YtgahamppfdhnaaaDoor
open Go.RowKit Go.Shelf
attribute [local go_sem] Oper.semAt_some

theorem yieldAt_wide {m m' : Nat} {P : Program} {l : Nat} {args : Array Value} {W : World} {R : Ending → World → Prop} (h : YieldAt Fence.wide m P l args W R) : YieldAt Fence.wide m' P l args W R := by
  obtain ⟨fn, tmps, assign, body, h1, h2, h3⟩ := h
  exact ⟨fn, tmps, assign, body, h1, h2, fun c cs _ => h3 c cs (room_wide _)⟩
def encF (x : Fe) : Array Value := #[.int .i64 (x.deep : Int), .pointer (some ⟨x.a.g, x.a.o, none⟩)]
def YOk (l : Nat) (L : List Fe) (J Jx : List Fe → World → Prop) (Kp : World → Prop) : Prop := ∀ (p : List Fe) (x : Fe) (W1 : World) (m : Nat), J p W1 → Kp W1 → (p ++ [x]) <+: L →
  YieldAt Fence.wide m Tryd.prog l (encF x) W1 fun e W' => Kp W' ∧ ((e = .returned (.bool true) ∧ J (p ++ [x]) W') ∨ (e = .returned (.bool false) ∧ Jx (p ++ [x]) W'))
def VisPost (L : List Fe) (J Jx : List Fe → World → Prop) (Kp : World → Prop) (all : List Fe) (e : Ending) (W' : World) : Prop :=
  Kp W' ∧ ((e = .returned (.bool true) ∧ J all W') ∨ (e = .returned (.bool false) ∧ ∃ q, q <+: L ∧ Jx q W'))
def VisitOk (a : AT) : Prop := ∀ (n l d : Nat) (L : List Fe) (J Jx : List Fe → World → Prop) (Kp : World → Prop) (pre : List Fe) (W : World),
  (∀ W, Kp W → Mem W (fun _ => True) a) → YOk l L J Jx Kp → d + (er a).size ≤ 1000000000 → (pre ++ flat d a) <+: L → Kp W → J pre W →
  CallsIn Fence.wide n Tryd.prog 35 #[.pointer (some ⟨a.g, a.o, none⟩), .int .i64 (d : Int), .func (.yield l) #[] #[]] W (VisPost L J Jx Kp (pre ++ flat d a))
theorem size_kid {l : List AT} {a : AT} (h : a ∈ l) : (er a).size ≤ sizeL (erL l) := by
  induction l with
  | nil => cases h
  | cons x l ih =>
    rw [erL, sizeL]
    rcases List.mem_cons.1 h with rfl | h
    · omega
    · have := ih h; omega
theorem size_pos (t : T) : 1 ≤ t.size := by cases t; rw [T.size]; omega
theorem sizeL_len : ∀ l : List T, l.length ≤ sizeL l
  | [] => Nat.zero_le _
  | t :: l => by
    have := sizeL_len l
    have := size_pos t
    rw [sizeL, List.length_cons]; omega
theorem flat_take (d : Nat) (ks : List AT) (k : Nat) (h : k < ks.length) : flatL d (ks.take (k + 1)) = flatL d (ks.take k) ++ flat d ks[k] := by
  rw [List.take_succ_eq_append_getElem h, flatL_append, flatL_one]
theorem flat_pre (d : Nat) (ks : List AT) (k : Nat) : flatL d (ks.take k) <+: flatL d ks := by
  have := flatL_append d (ks.take k) (ks.drop k)
  rw [List.take_append_drop] at this
  exact ⟨_, this.symm⟩
set_option maxHeartbeats 4000000 in
set_option maxRecDepth 100000 in
theorem visit_one (a : AT) (ih : ∀ k ∈ a.ks, VisitOk k) : VisitOk a := by
  intro n l d L J Jx Kp pre W hM hY hd hL hK hJ
  obtain ⟨op, tx, pl, kp, kc, g, o, ks⟩ := a
  have HM := Lib.hid hM
  have HY := Lib.hid hY
  have HK := Lib.hid hK
  have HJ := Lib.hid hJ
  have hfl := flat_eq d (.mk op tx pl kp kc g o ks)
  simp only [AT.ks] at hfl ih
  rw [hfl] at hL ⊢
  have hdk : ∀ k ∈ ks, d + 1 + (er k).size ≤ 1000000000 := fun k hk => by
    have := size_kid hk
    rw [er, T.size] at hd
    omega
  have hd2 : d ≤ 999999999 := by rw [er, T.size] at hd; omega
  have hkl : ks.length ≤ 1000000000 := by
    have := sizeL_len (erL ks)
    rw [erL_len] at this
    rw [er, T.size] at hd; omega
  have HL := Lib.hid hL
  have HIH := Lib.hid ih
  have HDK := Lib.hid hdk
  have hY0 : (pre ++ [⟨d, .mk op tx pl kp kc g o ks⟩]) <+: L := by
    refine List.IsPrefix.trans ?_ hL
    exact ⟨flatL (d + 1) ks, by simp⟩
  obtain ⟨fn, tmps, assign, body, hy, hR⟩ := hY pre ⟨d, .mk op tx pl kp kc g o ks⟩ W (n - 1) hJ hK hY0
  have HY0 := Lib.hid hY0
  have HR := Lib.hid hR
  simp only [encF, AT.g, AT.o] at hy ⊢
  clear hM hY hK hJ hL ih hdk hfl hY0 hR hd
  refine callsIn_of_wp Tryd.func35 rfl trivial ?_ rfl
  simp only [Tryd.ntmps35, List.size_toArray, List.length_cons, List.length_nil, Nat.reduceAdd, Nat.reduceSub, Array.replicate_succ, Array.replicate_zero, List.push_toArray, List.append_toArray, List.nil_append, List.cons_append]
  gi_wp2_with fail
  refine ⟨by simp [Fence.wide], HR.out.mono ?_⟩
  rintro e1 W3 ⟨hk3, (⟨rfl, hJ3⟩ | ⟨rfl, hJ3⟩)⟩
  rotate_left
  · have HE : Hid (VisPost L J Jx Kp (pre ++ { deep := d, a := AT.mk op tx pl kp kc g o ks } :: flatL (d + 1) ks) (.returned (.bool false)) W3) := Lib.hid ⟨hk3, .inr ⟨rfl, _, HY0.out, hJ3⟩⟩
    clear hk3 hJ3
    gi_wp2_with fail
    go_ret
    exact HE.out
  have hm := Mem.iff.1 (HM.out _ hk3)
  obtain ⟨_, ⟨_, _, _, h3⟩, hkd, _⟩ := hm
  simp only [AT.g, AT.o, AT.nd, AT.ks] at h3 hkd
  have HJ3 := Lib.hid hJ3
  have HK3 := Lib.hid hk3
  have HKD := Lib.hid hkd
  clear hk3 hJ3 hkd HJ HK hy HR
  gi_wp2_with fail
  gi_loopw [18] (fun iv wr => ∃ k, k ≤ ks.length ∧ iv = .int .i64 (k : Int) ∧ Hid (Kp wr) ∧ Hid (J (pre ++ [⟨d, .mk op tx pl kp kc g o ks⟩] ++ flatL (d + 1) (ks.take k)) wr)) (fun iv _ => ks.length - (intOf iv).toNat)
  case atStart => exact ⟨0, Nat.zero_le _, rfl, HK3, Lib.hid (by simpa [flatL] using HJ3.out)⟩
  case round =>
    obtain ⟨k, hk, rfl, HKr, HJr⟩ := hrel
    by_cases hc : k < ks.length
    · obtain ⟨_, ⟨_, _, _, h3⟩, _, _⟩ := Mem.iff.1 (HM.out _ HKr.out)
      simp only [AT.g, AT.o, AT.nd] at h3
      obtain ⟨kg, ko, rfl, hkk⟩ : ∃ kg ko, kp = some ⟨kg, ko, none⟩ ∧ ∀ (i : Nat) (h : i < ks.length), ks[i].g = kg ∧ ks[i].o = ko + i * 4 := by
        rcases HKD.out with rfl | h
        · simp at hc
        · exact h
      obtain ⟨eg, eo⟩ := hkk k hc
      have HE := Lib.hid (And.intro eg eo)
      clear hkk
      have hpx : (pre ++ [⟨d, .mk op tx pl (some ⟨kg, ko, none⟩) kc g o ks⟩] ++ flatL (d + 1) (ks.take k)) ++ flat (d + 1) ks[k] <+: L := by
        refine List.IsPrefix.trans ?_ HL.out
        obtain ⟨r, hr⟩ := flat_pre (d + 1) ks (k + 1)
        exact ⟨r, by rw [← hr, flat_take (d + 1) ks k hc]; simp⟩
      have HC := Lib.hid (HIH.out ks[k] (List.getElem_mem hc) (n - 1) l (d + 1) L J Jx Kp _ wr (fun W hW => (Mem.iff.1 (HM.out W hW)).2.2.2.all _ (List.getElem_mem hc)) HY.out (HDK.out _ (List.getElem_mem hc)) hpx HKr.out HJr.out)
      rw [eg, eo] at HC
      have hx : (pre ++ [⟨d, .mk op tx pl (some ⟨kg, ko, none⟩) kc g o ks⟩] ++ flatL (d + 1) (ks.take k)) ++ flat (d + 1) ks[k] = pre ++ [⟨d, .mk op tx pl (some ⟨kg, ko, none⟩) kc g o ks⟩] ++ flatL (d + 1) (ks.take (k + 1)) := by rw [flat_take (d + 1) ks k hc]; simp
      rw [hx] at HC
      clear hpx hx eg eo HE
      gi_wp2_with fail
      refine ⟨trivial, by simp [Fence.wide], HC.out.mono ?_⟩
      rintro e1 W4 ⟨hk4, (⟨rfl, hJ4⟩ | ⟨rfl, q, hq, hJ4⟩)⟩
      · have HK4 := Lib.hid hk4
        have HJ4 := Lib.hid hJ4
        clear hk4 hJ4 HC HKr HJr
        gi_wp2_with fail
        go_roundw
        case rel => exact ⟨k + 1, by omega, by simp, HK4, HJ4⟩
        case measure => simp [intOf]; omega
      · have HE : Hid (VisPost L J Jx Kp (pre ++ { deep := d, a := AT.mk op tx pl (some ⟨kg, ko, none⟩) kc g o ks } :: flatL (d + 1) ks) (.returned (.bool false)) W4) := Lib.hid ⟨hk4, .inr ⟨rfl, _, hq, hJ4⟩⟩
        clear hk4 hJ4 HC
        gi_wp2_with fail
        go_ret
        exact HE.out
    · obtain rfl : k = ks.length := by omega
      have HE : Hid (VisPost L J Jx Kp (pre ++ { deep := d, a := AT.mk op tx pl kp kc g o ks } :: flatL (d + 1) ks) (.returned (.bool true)) wr) := Lib.hid ⟨HKr.out, .inl ⟨rfl, by
        have := HJr.out
        rw [List.take_length] at this
        simpa using this⟩⟩
      clear HJr HKr
      gi_wp2_with fail
      go_ret
      exact HE.out
mutual
theorem visit_any : ∀ a : AT, VisitOk a
  | .mk op tx pl kp kc g o ks => visit_one (.mk op tx pl kp kc g o ks) (visitL ks)
theorem visitL : ∀ (l : List AT), ∀ k ∈ l, VisitOk k
  | [], k, h => by cases h
  | a :: l, k, h => by
    rcases List.mem_cons.1 h with h | h
    · rw [h]; exact visit_any a
    · exact visitL l k h
end
end Go.Proofs.YtgahamppfdhnaaaDoor
