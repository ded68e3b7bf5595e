/-
 MATHEMATICS of layer 9: patterns as trees: what a text is read as, over the bytes that are left: plain lists, of no program.
-/
import Derived.Test.YtmbfdkiejneheaaGreatDoorRows
import Derived.WalkKit
namespace Go.Proofs.YtmbfdkiejneheaaGreatDoor

/-- A set: four words. -/
structure W4 where
 a : Int
 b : Int
 c : Int
 d : Int
deriving DecidableEq
def W4.zero : W4 := ⟨0, 0, 0, 0⟩
inductive RT where
 | mk (op : Nat) (set : W4) (kids : List RT)
def RT.op : RT → Nat | .mk o _ _ => o
def RT.set : RT → W4 | .mk _ s _ => s
def RT.kids : RT → List RT | .mk _ _ k => k
abbrev ER := Nat × Nat
abbrev PR (α : Type) := Except ER (α × List UInt8)
def letB (c : UInt8) : Bool := (97 ≤ c && c ≤ 122) || (65 ≤ c && c ≤ 90)
def digB (c : UInt8) : Bool := 48 ≤ c && c ≤ 57
def escB (c : UInt8) : Option UInt8 :=
 if c < 32 ∨ 126 < c then none else if c = 110 then some 10 else if c = 116 then some 9
 else if letB c || digB c then none else some c
def nextR : List UInt8 → PR UInt8
 | [] => .error (0, 0)
 | c :: r => if c = 92 then (match r with
   | [] => .error (1, 9)
   | e :: r2 => match escB e with
    | none => .error (r2.length + 2, 9)
    | some x => .ok (x, r2))
  else .ok (c, r)
def dashB : List UInt8 → Bool
 | a :: c :: _ => a == 45 && c != 93
 | _ => false
section
variable (withW : W4 → UInt8 → W4) (notW : W4 → W4) (orW : W4 → W4 → W4)
def rangeN : Nat → Nat → W4 → W4
 | _, 0, s => s
 | c, n + 1, s => rangeN (c + 1) n (withW s (UInt8.ofNat c))
def rangeW (lo hi : UInt8) : W4 := rangeN withW lo.toNat (hi.toNat + 1 - lo.toNat) W4.zero
def spanR (n : Nat) (l : List UInt8) : PR W4 :=
 match l with
 | [] => .ok (W4.zero, [])
 | c :: r => match nextR (c :: r) with
  | .error x => .error x
  | .ok (lo, r1) =>
   if dashB r1 then (match nextR (r1.drop 1) with
    | .error x => .error x
    | .ok (hi, r2) => if hi < lo then .error (n, 9) else .ok (rangeW withW lo hi, r2))
   else .ok (rangeW withW lo lo, r1)
def setLoop (n : Nat) : Nat → List UInt8 → W4 → PR W4
 | 0, _, _ => .error (0, 0)
 | f + 1, l, s => match l with
  | [] => .error (n, 9)
  | c :: r => if c = 93 then .ok (s, r) else match spanR withW n (c :: r) with
   | .error x => .error x
   | .ok (t, r2) => setLoop n f r2 (orW s t)
def setR (l : List UInt8) : PR RT :=
 let n := l.length + 1
 let nt := decide (l.head? = some 94)
 let l1 := if l.head? = some 94 then l.drop 1 else l
 match spanR withW n l1 with
 | .error x => .error x
 | .ok (s, r) => match setLoop withW orW n (r.length + 1) r s with
  | .error x => .error x
  | .ok (s2, r2) => .ok (.mk 1 (if nt then notW s2 else s2) [], r2)
def thingR (G : List UInt8 → PR RT) : List UInt8 → PR RT
 | [] => .error (0, 0)
 | c :: r => if c = 40 then G r else if c = 91 then setR withW notW orW r
  else if c = 46 then .ok (.mk 1 (notW W4.zero) [], r) else if c = 94 then .ok (.mk 7 W4.zero [], r) else if c = 36 then .ok (.mk 8 W4.zero [], r)
  else match nextR (c :: r) with
   | .error x => .error x
   | .ok (b, r2) => .ok (.mk 1 (withW W4.zero b) [], r2)
def signB (c : UInt8) : Bool := c == 42 || c == 43 || c == 63
def oftenR (c : UInt8) : Nat := if c = 42 then 4 else if c = 43 then 5 else 6
def partLoop (G : List UInt8 → PR RT) : Nat → List UInt8 → List RT → PR (List RT)
 | 0, _, _ => .error (0, 0)
 | f + 1, l, ts => match l with
  | [] => .ok (ts, [])
  | c :: r => if c = 124 ∨ c = 41 then .ok (ts, c :: r)
   else if signB c then (match ts.getLast? with
    | none => .error (r.length + 1, 9)
    | some t => partLoop G f r (ts.dropLast ++ [.mk (oftenR c) W4.zero [t]]))
   else match thingR withW notW orW G (c :: r) with
    | .error x => .error x
    | .ok (t, r2) => partLoop G f r2 (ts ++ [t])
def gatherR (op : Nat) : List RT → RT
 | [] => .mk 0 W4.zero []
 | [t] => t
 | l => .mk op W4.zero l
def partR (G : List UInt8 → PR RT) (l : List UInt8) : PR RT :=
 match partLoop withW notW orW G (l.length + 1) l [] with
 | .error x => .error x
 | .ok (ts, r) => .ok (gatherR 2 ts, r)
def patLoop (G : List UInt8 → PR RT) : Nat → List UInt8 → List RT → PR (List RT)
 | 0, _, _ => .error (0, 0)
 | f + 1, l, ts => match l with
  | [] => .ok (ts, [])
  | c :: r => if c = 124 then (match partR withW notW orW G r with
    | .error x => .error x
    | .ok (t, r2) => patLoop G f r2 (ts ++ [t]))
   else .ok (ts, c :: r)
def patR (G : List UInt8 → PR RT) (l : List UInt8) : PR RT :=
 match partR withW notW orW G l with
 | .error x => .error x
 | .ok (t, r) => match patLoop withW notW orW G (r.length + 1) r [t] with
  | .error x => .error x
  | .ok (ts, r2) => .ok (gatherR 3 ts, r2)
def grpR : Nat → List UInt8 → PR RT
 | 0, l => .error (l.length + 1, 14)
 | d + 1, l => match patR withW notW orW (grpR d) l with
  | .error x => .error x
  | .ok (t, r) => match r with
   | [] => .error (l.length + 1, 9)
   | c :: r2 => if c = 41 then .ok (t, r2) else .error (l.length + 1, 9)
def topR (l : List UInt8) : PR RT :=
 match patR withW notW orW (grpR withW notW orW 20) l with
 | .error x => .error x
 | .ok (t, r) => match r with
  | [] => .ok (t, [])
  | _ :: r2 => .error (r2.length + 1, 9)
end
end Go.Proofs.YtmbfdkiejneheaaGreatDoor
