/-
 MATHEMATICS of layer 13: what is left behind what was read, where errors stand, and how what is read in a row is put together, of no program.
-/
import Derived.Test.YtmbfdkiejneheaaGreatDoorLxM
import Derived.Below
import Derived.Lib.Hide
namespace Go.Proofs.YtmbfdkiejneheaaGreatDoor
open Go.RowKit

/-- These tokens lie in block g. -/
structure TAt (w : World) (g : Nat) (l : List Tok) : Prop where
 lt : g < w.heap.size
 k : ∀ i (h : i < l.length), w.cell? ⟨g, i * 3, none⟩ = some (.int .i64 l[i].k)
 t : ∀ i (h : i < l.length), w.cell? ⟨g, i * 3 + 1, none⟩ = some (.string ⟨l[i].t.toArray⟩)
 a : ∀ i (h : i < l.length), w.cell? ⟨g, i * 3 + 2, none⟩ = some (.int .i64 l[i].a)
theorem TAt.below {w w' : World} {g B : Nat} {l : List Tok} (h : TAt w g l) (hb : Below B w w') (hB : w.heap.size ≤ B) : TAt w' g l := by
 have hc : ∀ o, w'.cell? ⟨g, o, none⟩ = w.cell? ⟨g, o, none⟩ := fun o => hb.cell (p := ⟨g, o, none⟩) (Nat.lt_of_lt_of_le h.lt hB)
 exact ⟨Nat.lt_of_lt_of_le h.lt hb.size, fun i hi => (hc _).trans (h.k i hi), fun i hi => (hc _).trans (h.t i hi), fun i hi => (hc _).trans (h.a i hi)⟩
theorem TAt.drew {w : World} {g : Nat} {l : List Tok} (h : TAt w g l) : TAt w.drew g l := ⟨h.lt, h.k, h.t, h.a⟩
end Go.Proofs.YtmbfdkiejneheaaGreatDoor

namespace Go.Proofs.YtmbfdkiejneheaaGreatDoor

/-- A tree of the language: what it is, its text, its place, its kids. -/
inductive PT where
 | mk (op tx : List UInt8) (pl : Nat) (kids : List PT)
def PT.op : PT → List UInt8 | .mk o _ _ _ => o
def PT.tx : PT → List UInt8 | .mk _ t _ _ => t
def PT.pl : PT → Nat | .mk _ _ p _ => p
def PT.kids : PT → List PT | .mk _ _ _ k => k
abbrev TR (α : Type) := Except (Nat × Nat) (α × List Tok)
def bnd {α β : Type} (x : TR α) (f : α → List Tok → TR β) : TR β := match x with
 | .error e => .error e
 | .ok (a, l) => f a l
theorem bnd_ok {α β : Type} (a : α) (l : List Tok) (f : α → List Tok → TR β) : bnd (.ok (a, l)) f = f a l := rfl
theorem bnd_err {α β : Type} (e : Nat × Nat) (f : α → List Tok → TR β) : bnd (.error e : TR α) f = .error e := rfl
def noT : Tok := ⟨0, [], 0⟩
def tk (l : List Tok) : Tok := l.headD noT
def nx (l : List Tok) : List Tok := if (tk l).k = 0 then l else l.tail
def fx (l : List Tok) : List UInt8 := if (tk l).k = 8 ∨ (tk l).k = 7 then (tk l).t else []
/-- The token that comes can't stand here. -/
def refE (l : List Tok) : Nat × Nat := ((tk l).a, if (tk l).k = 10 ∨ fx l = [124] then 10 else 9)
def deepE (l : List Tok) : Nat × Nat := ((tk l).a, 14)
def wantP (s : List UInt8) (l : List Tok) : TR Unit := if fx l = s then .ok ((), nx l) else .error (refE l)
def nlsP (l : List Tok) : List Tok := l.dropWhile fun t => decide (t.k = 1)
def sepB (t : Tok) : Bool := decide (t.k = 1) || (decide (t.k = 8 ∨ t.k = 7) && decide (t.t = [59]))
def sepsP (l : List Tok) : List Tok := l.dropWhile sepB
def nd (op : List UInt8) (ks : List PT) : PT := .mk op [] 0 ks
def named (op : List UInt8) (t : Tok) (ks : List PT) : PT := .mk op t.t t.a ks
/- the names of nodes -/
def oVar : List UInt8 := [118, 97, 114]
def oIndex : List UInt8 := [105, 110, 100, 101, 120]
def oField : List UInt8 := [102, 105, 101, 108, 100]
def oName : List UInt8 := [110, 97, 109, 101]
def oNum : List UInt8 := [110, 117, 109]
def oStr : List UInt8 := [115, 116, 114]
def oRe : List UInt8 := [114, 101]
def oCall : List UInt8 := [99, 97, 108, 108]
def oBuiltin : List UInt8 := [98, 117, 105, 108, 116, 105, 110]
def oNone : List UInt8 := [110, 111, 110, 101]
def isPl (t : PT) : Bool := decide (t.op = oVar) || decide (t.op = oIndex) || decide (t.op = oField)
def rowP (f : List Tok → TR PT) : Nat → List Tok → List PT → TR (List PT)
 | 0, _, _ => .error (0, 0)
 | n + 1, l, ts => if fx l = [44] then bnd (f (nlsP (nx l))) fun t l2 => rowP f n l2 (ts ++ [t]) else .ok (ts, l)
def row1 (f : List Tok → TR PT) (l : List Tok) : TR (List PT) := bnd (f l) fun t l2 => rowP f (l2.length + 1) l2 [t]
def withinP {α : Type} (o : List UInt8) (f : List Tok → TR α) (c : List UInt8) (l : List Tok) : TR α :=
 bnd (wantP o l) fun _ l1 => bnd (f (nlsP l1)) fun a l2 => bnd (wantP c (nlsP l2)) fun _ l3 => .ok (a, l3)
def argsP (f : List Tok → TR PT) (l : List Tok) : TR (List PT) := if fx l = [41] then .ok ([], l) else row1 f l
def listP (f : List Tok → TR PT) (l : List Tok) : TR (List PT) := withinP [40] (argsP f) [41] l
/-- What begins a level, at what is left of levels. -/
structure Rc where
 E : Bool → List Tok → TR PT
 U : List Tok → TR PT
 F : List Tok → TR PT
/- the names of functions -/
def bLength : List UInt8 := [108, 101, 110, 103, 116, 104]
def bSubstr : List UInt8 := [115, 117, 98, 115, 116, 114]
def bSplit : List UInt8 := [115, 112, 108, 105, 116]
def bSub : List UInt8 := [115, 117, 98]
def bGsub : List UInt8 := [103, 115, 117, 98]
def bMatch : List UInt8 := [109, 97, 116, 99, 104]
def bSprintf : List UInt8 := [115, 112, 114, 105, 110, 116, 102]
def bRand : List UInt8 := [114, 97, 110, 100]
def bSrand : List UInt8 := [115, 114, 97, 110, 100]
/-- What a function of the language takes. -/
def takenP (name : Tok) (l : List PT) : Option (List PT) :=
 if name.t = bLength then (if l.length ≤ 1 then some l else none)
 else if name.t = bRand then (if l.length = 0 then some l else none)
 else if name.t = bSprintf then (if 1 ≤ l.length then some l else none)
 else if name.t = oIndex ∨ name.t = bMatch then (if l.length = 2 then some l else none)
 else if name.t = bSub ∨ name.t = bGsub then
  (let l2 := if l.length = 2 then l ++ [nd oField [.mk oNum [48] name.a []]] else l
   match l2 with
   | [_, _, c] => if isPl c then some l2 else none
   | _ => none)
 else if name.t = bSplit then (match l with
  | a :: b :: r => if b.op = oVar ∧ r.length ≤ 1 then some (a :: .mk oName b.tx b.pl b.kids :: r) else none
  | _ => none)
 else if name.t = bSubstr then (if 2 ≤ l.length ∧ l.length ≤ 3 then some l else none)
 else if l.length = 1 then some l else none
section
variable (reOk : List UInt8 → Bool) (R : Rc)
def elemP (op : List UInt8) (l : List Tok) : TR PT :=
 if (tk l).k = 5 then (if fx (nx l) = [91] then bnd (withinP [91] (R.E false) [93] (nx l)) fun t l2 => .ok (named oIndex (tk l) [t], l2) else .ok (named op (tk l) [], nx l))
 else .error (refE l)
def builtinP (l : List Tok) : TR PT :=
 if (tk l).t = bLength ∧ fx (nx l) ≠ [40] then .ok (named oBuiltin (tk l) [], nx l)
 else bnd (listP (R.E false) (nx l)) fun ts l2 => match takenP (tk l) ts with
  | some us => .ok (named oBuiltin (tk l) us, l2)
  | none => .error ((tk l).a, if (tk l).t = bSrand ∧ ts.length = 0 then 10 else 9)
def primP (l : List Tok) : TR PT :=
 if (tk l).k = 2 then .ok (named oNum (tk l) [], nx l)
 else if (tk l).k = 3 then .ok (named oStr (tk l) [], nx l)
 else if (tk l).k = 4 then (if reOk (tk l).t then .ok (named oRe (tk l) [], nx l) else .error (refE l))
 else if (tk l).k = 5 then elemP R oVar l
 else if (tk l).k = 6 then bnd (listP (R.E false) (nx l)) fun ts l2 => .ok (named oCall (tk l) ts, l2)
 else if (tk l).k = 9 then builtinP R l
 else if fx l = [40] then withinP [40] (R.E false) [41] l
 else if fx l = [36] then R.F (nx l)
 else .error (refE l)
def stepB (l : List Tok) : Bool := decide (fx l = [43, 43]) || decide (fx l = [45, 45])
def preP (l : List Tok) : TR PT := bnd (primP reOk R (nx l)) fun t l2 =>
 if isPl t then .ok (nd (if (tk l).t = [45, 45] then [112, 114, 101, 100, 101, 99] else [112, 114, 101, 105, 110, 99]) [t], l2) else .error (refE l2)
def postP (l : List Tok) : TR PT :=
 if stepB l then preP reOk R l
 else bnd (primP reOk R l) fun t l2 =>
  if isPl t then (if fx l2 = [43, 43] then .ok (nd [112, 111, 115, 116, 105, 110, 99] [t], nx l2) else if fx l2 = [45, 45] then .ok (nd [112, 111, 115, 116, 100, 101, 99] [t], nx l2) else .ok (t, l2)) else .ok (t, l2)
def fieldP (l : List Tok) : TR PT :=
 if stepB l then bnd (preP reOk R l) fun t l2 => .ok (nd oField [t], l2) else bnd (primP reOk R l) fun t l2 => .ok (nd oField [t], l2)
def unaryP (l : List Tok) : TR PT :=
 if fx l = [33] then bnd (R.U (nx l)) fun t l2 => .ok (nd [110, 111, 116] [t], l2)
 else if fx l = [45] then bnd (R.U (nx l)) fun t l2 => .ok (nd [110, 101, 103] [t], l2)
 else if fx l = [43] then bnd (R.U (nx l)) fun t l2 => .ok (nd [112, 108, 117, 115] [t], l2)
 else postP reOk R l
/-- What a sign between two parts makes of them. -/
def binO (s : List UInt8) : List UInt8 :=
 if s = [124, 124] then [111, 114] else if s = [38, 38] then [97, 110, 100] else if s = [126] then [109, 97, 116, 99, 104] else if s = [33, 126] then [110, 111, 109, 97, 116, 99, 104]
 else if s = [60] then [108, 101, 115, 115] else if s = [60, 61] then [108, 101, 115, 115, 101, 113] else if s = [61, 61] then [101, 113, 117, 97, 108] else if s = [33, 61] then [110, 111, 116, 101, 113, 117, 97, 108]
 else if s = [62] then [103, 114, 101, 97, 116, 101, 114] else if s = [62, 61] then [103, 114, 101, 97, 116, 101, 114, 101, 113] else if s = [43] then [97, 100, 100] else if s = [45] then [115, 117, 98]
 else if s = [42] then [109, 117, 108] else if s = [47] then [100, 105, 118] else [109, 111, 100]
def chainL (part : List Tok → TR PT) (signs : List (List UInt8)) : Nat → List Tok → PT → TR PT
 | 0, _, _ => .error (0, 0)
 | n + 1, l, t => if fx l ∈ signs then
   bnd (part (if binO (tk l).t = [111, 114] ∨ binO (tk l).t = [97, 110, 100] then nlsP (nx l) else nx l)) fun u l2 => chainL part signs n l2 (nd (binO (tk l).t) [t, u])
  else .ok (t, l)
def chainP (part : List Tok → TR PT) (signs : List (List UInt8)) (l : List Tok) : TR PT := bnd (part l) fun t l2 => chainL part signs (l2.length + 1) l2 t
def productP : List Tok → TR PT := chainP (unaryP reOk R) [[42], [47], [37]]
def sumP : List Tok → TR PT := chainP (productP reOk R) [[43], [45]]
def valueB (l : List Tok) : Bool := decide ((tk l).k = 2 ∨ (tk l).k = 3 ∨ (tk l).k = 5 ∨ (tk l).k = 6 ∨ (tk l).k = 9) || decide (fx l = [36]) || decide (fx l = [40])
def sideL : Nat → List Tok → PT → TR PT
 | 0, _, _ => .error (0, 0)
 | n + 1, l, t => if valueB l then bnd (sumP reOk R l) fun u l2 => sideL n l2 (nd [99, 97, 116] [t, u]) else .ok (t, l)
def sideP (l : List Tok) : TR PT := bnd (sumP reOk R l) fun t l2 => sideL reOk R (l2.length + 1) l2 t
def relB (pr : Bool) (s : List UInt8) : Bool := (decide (s = [62]) && !pr) || decide (s = [60] ∨ s = [60, 61] ∨ s = [61, 61] ∨ s = [33, 61] ∨ s = [62, 61])
def relP (pr : Bool) (l : List Tok) : TR PT := bnd (sideP reOk R l) fun t l2 =>
 if relB pr (fx l2) then bnd (sideP reOk R (nx l2)) fun u l3 => .ok (nd (binO (fx l2)) [t, u], l3) else .ok (t, l2)
def matchP (pr : Bool) : List Tok → TR PT := chainP (relP reOk R pr) [[126], [33, 126]]
def inL : Nat → List Tok → PT → TR PT
 | 0, _, _ => .error (0, 0)
 | n + 1, l, t => if fx l = [105, 110] then (if (tk (nx l)).k = 5 then inL n (nx (nx l)) (named [105, 110] (tk (nx l)) [t]) else .error (refE (nx l))) else .ok (t, l)
def inP (pr : Bool) (l : List Tok) : TR PT := bnd (matchP reOk R pr l) fun t l2 => inL (l2.length + 1) l2 t
def andP (pr : Bool) : List Tok → TR PT := chainP (inP reOk R pr) [[38, 38]]
def orP (pr : Bool) : List Tok → TR PT := chainP (andP reOk R pr) [[124, 124]]
def asgB (s : List UInt8) : Bool := decide (s = [61] ∨ s = [43, 61] ∨ s = [45, 61] ∨ s = [42, 61] ∨ s = [47, 61] ∨ s = [37, 61])
def exprP (pr : Bool) (l : List Tok) : TR PT := bnd (orP reOk R pr l) fun n l1 =>
 if fx l1 = [63] then
  bnd (R.E pr (nlsP (nx l1))) fun yes l2 => bnd (wantP [58] (nlsP l2)) fun _ l3 => bnd (R.E pr (nlsP l3)) fun no l4 => .ok (nd [99, 111, 110, 100] [n, yes, no], l4)
 else if asgB (fx l1) && isPl n then bnd (R.E pr (nlsP (nx l1))) fun v l2 => .ok (.mk [97, 115, 115, 105, 103, 110] (tk l1).t 0 [n, v], l2)
 else .ok (n, l1)
end
def rcP (reOk : List UInt8 → Bool) : Nat → Rc
 | 0 => ⟨fun _ l => .error (deepE l), fun l => .error (deepE l), fun l => .error (deepE l)⟩
 | n + 1 => ⟨exprP reOk (rcP reOk n), unaryP reOk (rcP reOk n), fieldP reOk (rcP reOk n)⟩
section
variable (R : Rc) (S : List Tok → TR PT)
def endB (l : List Tok) : Bool := decide ((tk l).k = 1 ∨ (tk l).k = 0) || decide (fx l = [59] ∨ fx l = [125] ∨ fx l = [41])
def targB (l : List Tok) : Bool := decide (fx l = [62] ∨ fx l = [62, 62])
/-- What stands behind the bracket that belongs to the one that comes. -/
def bracketP : Nat → List Tok → Int → Bool
 | 0, _, _ => false
 | n + 1, l, k => if (tk l).k = 0 then false else
   (let k2 := if fx l = [40] then k + 1 else if fx l = [41] then k - 1 else k
    if k2 = 0 then decide ((tk (nx l)).k = 1 ∨ (tk (nx l)).k = 0) || decide (fx (nx l) = [59] ∨ fx (nx l) = [125]) || targB (nx l) else bracketP n (nx l) k2)
def printedP (l : List Tok) : TR (List PT) :=
 if fx l = [40] ∧ bracketP (l.length + 1) l 0 = true then listP (R.E false) l
 else if endB l || targB l then .ok ([], l)
 else row1 (R.E true) l
def targetP (reOk : List UInt8 → Bool) (l : List Tok) : TR PT :=
 if fx l = [62] then bnd (sideP reOk R (nx l)) fun t l2 => .ok (nd [116, 111] [t], l2)
 else if fx l = [62, 62] then bnd (sideP reOk R (nx l)) fun t l2 => .ok (nd [97, 112, 112, 101, 110, 100] [t], l2)
 else .ok (nd oNone [], l)
def wBreak : List UInt8 := [98, 114, 101, 97, 107]
def wContinue : List UInt8 := [99, 111, 110, 116, 105, 110, 117, 101]
def wNext : List UInt8 := [110, 101, 120, 116]
def wExit : List UInt8 := [101, 120, 105, 116]
def wReturn : List UInt8 := [114, 101, 116, 117, 114, 110]
def wDelete : List UInt8 := [100, 101, 108, 101, 116, 101]
def wPrint : List UInt8 := [112, 114, 105, 110, 116]
def wPrintf : List UInt8 := [112, 114, 105, 110, 116, 102]
def printP (reOk : List UInt8 → Bool) (op : List UInt8) (l : List Tok) : TR PT :=
 bnd (printedP R l) fun ts l2 => bnd (targetP R reOk l2) fun g l3 => if op = wPrintf ∧ ts = [] then .error (refE l3) else .ok (nd op (g :: ts), l3)
def simpleP (reOk : List UInt8 → Bool) (l : List Tok) : TR PT :=
 if fx l = wBreak ∨ fx l = wContinue ∨ fx l = wNext then .ok (.mk (fx l) [] (tk l).a [], nx l)
 else if fx l = wExit ∨ fx l = wReturn then (if endB (nx l) then .ok (.mk (fx l) [] (tk l).a [], nx l) else bnd (R.E false (nx l)) fun t l2 => .ok (.mk (fx l) [] (tk l).a [t], l2))
 else if fx l = wDelete then bnd (elemP R oName (nx l)) fun t l2 => .ok (nd wDelete [t], l2)
 else if fx l = wPrint ∨ fx l = wPrintf then printP R reOk (fx l) (nx l)
 else bnd (R.E false l) fun t l2 => .ok (nd [101, 120, 112, 114] [t], l2)
def blockL : Nat → List Tok → List PT → TR PT
 | 0, _, _ => .error (0, 0)
 | n + 1, l, ts => if fx (sepsP l) = [125] then .ok (nd [98, 108, 111, 99, 107] ts, nx (sepsP l)) else bnd (S (sepsP l)) fun t l2 => blockL n l2 (ts ++ [t])
def blockP (l : List Tok) : TR PT := bnd (wantP [123] l) fun _ l2 => blockL S (l2.length + 1) l2 []
def bodyP (l : List Tok) : TR PT := S (nlsP l)
/-- Behind Newlines and a ; perhaps an else. -/
def elseP (l : List Tok) : Option (List Tok) :=
 let l1 := nlsP l
 let l2 := nlsP (if fx l1 = [59] then nx l1 else l1)
 if fx l2 = [101, 108, 115, 101] then some (nx l2) else none
def choiceP (l : List Tok) : TR PT := bnd (withinP [40] (R.E false) [41] l) fun c l2 => bnd (bodyP S l2) fun y l3 => match elseP l3 with
 | some l4 => bnd (bodyP S l4) fun z l5 => .ok (nd [105, 102] [c, y, z], l5)
 | none => .ok (nd [105, 102] [c, y], l3)
def keysB (l : List Tok) : Bool := match l with
 | a :: b :: c :: e :: _ => decide (a.k = 5) && decide (b.k = 7) && decide (b.t = [105, 110]) && decide (c.k = 5) && (decide (e.k = 1) || (decide (e.k = 8) && decide (e.t = [41])))
 | _ => false
def unlessP (s : List UInt8) (f : List Tok → TR PT) (l : List Tok) : TR PT := if fx l = s then .ok (nd oNone [], l) else f l
def stepsP (reOk : List UInt8 → Bool) (l : List Tok) : TR (List PT) :=
 bnd (unlessP [59] (simpleP R reOk) l) fun a l1 => bnd (wantP [59] l1) fun _ l2 => bnd (unlessP [59] (R.E false) (nlsP l2)) fun b l3 => bnd (wantP [59] l3) fun _ l4 =>
  bnd (unlessP [41] (simpleP R reOk) (nlsP l4)) fun c l5 => .ok ([a, b, c], l5)
/-- What a for has within its brackets: what it is, its name, its parts. -/
def forP (reOk : List UInt8 → Bool) (l : List Tok) : TR (List UInt8 × Tok × List PT) :=
 if keysB l then .ok (([102, 111, 114, 105, 110], tk l, [named oName (tk (nx (nx l))) []]), nx (nx (nx l)))
 else bnd (stepsP R reOk l) fun ks l2 => .ok (([102, 111, 114], noT, ks), l2)
def loopP (reOk : List UInt8 → Bool) (l : List Tok) : TR PT := bnd (withinP [40] (forP R reOk) [41] l) fun x l2 => bnd (bodyP S l2) fun b l3 => .ok (named x.1 x.2.1 (x.2.2 ++ [b]), l3)
def stmtP (reOk : List UInt8 → Bool) (l : List Tok) : TR PT :=
 if fx l = [123] then blockP S l
 else if fx l = [59] then .ok (nd [101, 109, 112, 116, 121] [], nx l)
 else if fx l = [105, 102] then choiceP R S (nx l)
 else if fx l = [119, 104, 105, 108, 101] then bnd (withinP [40] (R.E false) [41] (nx l)) fun c l2 => bnd (bodyP S l2) fun b l3 => .ok (nd [119, 104, 105, 108, 101] [c, b], l3)
 else if fx l = [102, 111, 114] then loopP R S reOk (nx l)
 else bnd (simpleP R reOk l) fun t l2 => if (tk l2).k = 1 ∨ fx l2 = [59] then .ok (t, nx l2) else if fx l2 = [125] then .ok (t, l2) else .error (refE l2)
end
def stP (reOk : List UInt8 → Bool) : Nat → List Tok → TR PT
 | 0, l => .error (deepE l)
 | n + 1, l => stmtP (rcP reOk n) (stP reOk n) reOk l
section
variable (reOk : List UInt8 → Bool)
def paramP (l : List Tok) : TR PT := if (tk l).k = 5 then .ok (named [112, 97, 114, 97, 109] (tk l) [], nx l) else .error (refE l)
def funcP (l : List Tok) : TR PT :=
 if (tk l).k = 5 ∨ (tk l).k = 6 then bnd (withinP [40] (argsP paramP) [41] (nx l)) fun ks l2 => bnd (blockP (stP reOk 50) (nlsP l2)) fun b l3 => .ok (named [102, 117, 110, 99] (tk l) (ks ++ [b]), l3)
 else .error (refE l)
def oRule : List UInt8 := [114, 117, 108, 101]
def itemP (l : List Tok) : TR PT :=
 if fx l = [66, 69, 71, 73, 78] then bnd (blockP (stP reOk 50) (nx l)) fun b l2 => .ok (nd [98, 101, 103, 105, 110] [b], l2)
 else if fx l = [69, 78, 68] then bnd (blockP (stP reOk 50) (nx l)) fun b l2 => .ok (nd [101, 110, 100] [b], l2)
 else if fx l = [102, 117, 110, 99, 116, 105, 111, 110] then funcP reOk (nx l)
 else if fx l = [123] then bnd (blockP (stP reOk 50) l) fun b l2 => .ok (nd oRule [nd [97, 108, 119, 97, 121, 115] [], b], l2)
 else bnd ((rcP reOk 50).E false l) fun e l2 =>
  if fx l2 = [123] then bnd (blockP (stP reOk 50) l2) fun b l3 => .ok (nd oRule [e, b], l3)
  else if (tk l2).k = 1 ∨ (tk l2).k = 0 ∨ fx l2 = [59] then .ok (nd oRule [e, nd [100, 101, 102, 97, 117, 108, 116] []], l2) else .error (refE l2)
def itemsL : Nat → List Tok → List PT → TR PT
 | 0, _, _ => .error (0, 0)
 | n + 1, l, ts => if (tk (sepsP l)).k = 0 then .ok (nd [112, 114, 111, 103, 114, 97, 109] ts, sepsP l) else bnd (itemP reOk (sepsP l)) fun t l2 => itemsL n l2 (ts ++ [t])
def progP (l : List Tok) : TR PT := itemsL reOk (l.length + 1) l []
end
end Go.Proofs.YtmbfdkiejneheaaGreatDoor

namespace Go.Proofs.YtmbfdkiejneheaaGreatDoor

/-- Tokens of which the end is the last. -/
def Tl (l : List Tok) : Prop := ∃ l0 e, l = l0 ++ [e] ∧ e.k = 0 ∧ ∀ x ∈ l0, x.k ≠ 0
theorem Tl.ne {l : List Tok} (h : Tl l) : l ≠ [] := by
 obtain ⟨l0, e, rfl, _⟩ := h
 simp
theorem Tl.pos {l : List Tok} (h : Tl l) : 0 < l.length := List.length_pos_iff.2 h.ne
theorem Tl.suf {l l2 : List Tok} (h : Tl l) (hs : l2 <:+ l) (hn : l2 ≠ []) : Tl l2 := by
 obtain ⟨l0, e, rfl, h1, h2⟩ := h
 obtain ⟨p, hp⟩ := hs
 rcases List.eq_nil_or_concat l2 with rfl | ⟨m, e2, rfl⟩
 ·
  exact absurd rfl hn
 ·
  rw [List.concat_eq_append, ← List.append_assoc] at hp
  have := List.append_inj' hp rfl
  obtain rfl : e2 = e := by simpa using this.2
  refine ⟨m, e2, by rw [List.concat_eq_append], h1, fun x hx => h2 x ?_⟩
  rw [← this.1]
  exact List.mem_append_right _ hx
theorem Tl.cons {l : List Tok} (h : Tl l) : ∃ t r, l = t :: r ∧ ((t.k = 0 ∧ r = []) ∨ (t.k ≠ 0 ∧ Tl r)) := by
 obtain ⟨l0, e, rfl, h1, h2⟩ := h
 rcases l0 with _ | ⟨t, l0⟩
 ·
  exact ⟨e, [], rfl, .inl ⟨h1, rfl⟩⟩
 ·
  exact ⟨t, l0 ++ [e], rfl, .inr ⟨h2 t (by simp), l0, e, rfl, h1, fun x hx => h2 x (by simp [hx])⟩⟩
theorem Tl.tk_mem {l : List Tok} (h : Tl l) : tk l ∈ l := by
 obtain ⟨t, r, rfl, _⟩ := h.cons
 simp [tk]
theorem Tl.nx {l : List Tok} (h : Tl l) : nx l <:+ l ∧ nx l ≠ [] ∧ Tl (nx l) ∧ ((tk l).k ≠ 0 → (nx l).length < l.length) := by
 obtain ⟨t, r, rfl, h1 | h1⟩ := h.cons
 ·
  have : Go.Proofs.YtmbfdkiejneheaaGreatDoor.nx (t :: r) = t :: r := by simp [Go.Proofs.YtmbfdkiejneheaaGreatDoor.nx, tk, h1.1]
  rw [this]
  exact ⟨List.suffix_refl _, by simp, h, fun h2 => absurd h1.1 h2⟩
 ·
  have : Go.Proofs.YtmbfdkiejneheaaGreatDoor.nx (t :: r) = r := by simp [Go.Proofs.YtmbfdkiejneheaaGreatDoor.nx, tk, h1.1]
  rw [this]
  exact ⟨List.suffix_cons _ _, h1.2.ne, h1.2, fun _ => by simp⟩
theorem drop_good (p : Tok → Bool) (hp : ∀ t, t.k = 0 → p t = false) : ∀ l, Tl l → l.dropWhile p <:+ l ∧ l.dropWhile p ≠ [] ∧ Tl (l.dropWhile p)
 | [], h => absurd rfl h.ne
 | t :: r, h => by
  obtain ⟨t', r', he, h1⟩ := h.cons
  obtain ⟨rfl, rfl⟩ : t = t' ∧ r = r' := by simpa using he
  rw [List.dropWhile_cons]
  split
  ·
   rename_i h2
   rcases h1 with h1 | h1
   ·
    rw [hp t h1.1] at h2; cases h2
   ·
    have := drop_good p hp r h1.2
    exact ⟨this.1.trans (List.suffix_cons _ _), this.2⟩
  ·
   exact ⟨List.suffix_refl _, by simp, h⟩
theorem Tl.nls {l : List Tok} (h : Tl l) : nlsP l <:+ l ∧ nlsP l ≠ [] ∧ Tl (nlsP l) := drop_good _ (fun t ht => by simp [ht]) l h
theorem Tl.seps {l : List Tok} (h : Tl l) : sepsP l <:+ l ∧ sepsP l ≠ [] ∧ Tl (sepsP l) := drop_good _ (fun t ht => by simp [sepB, ht]) l h
theorem fx_kind {l : List Tok} {s : List UInt8} (h : fx l = s) (hs : s ≠ []) : (tk l).k ≠ 0 := fun h0 => by
 apply hs
 rw [← h]
 simp [fx, h0]
/-- What an error may be; what is left. -/
def GoodAt {α : Type} (s : Bool) (X : TR α) (l : List Tok) : Prop := match X with
 | .ok (_, l2) => l2 <:+ l ∧ l2 ≠ [] ∧ (s = true → l2.length < l.length)
 | .error e => (∃ x ∈ l, x.a = e.1) ∧ (e.2 = 9 ∨ e.2 = 10 ∨ e.2 = 14)
def Good {α : Type} (s : Bool) (f : List Tok → TR α) : Prop := ∀ l, Tl l → GoodAt s (f l) l
section
variable {α β : Type} {s : Bool} {l l2 : List Tok}
theorem GoodAt.ok (a : α) (h : l2 <:+ l) (hn : l2 ≠ []) (hs : s = true → l2.length < l.length) : GoodAt s (.ok (a, l2)) l := ⟨h, hn, hs⟩
theorem GoodAt.ref (h : Tl l2) (hs : l2 <:+ l) : GoodAt s (.error (refE l2) : TR α) l := by
 refine ⟨⟨tk l2, hs.subset h.tk_mem, rfl⟩, ?_⟩
 unfold refE
 simp only
 split <;> simp
theorem GoodAt.deep (h : Tl l) : GoodAt s (.error (deepE l) : TR α) l := ⟨⟨tk l, h.tk_mem, rfl⟩, by simp [deepE]⟩
theorem GoodAt.sub {X : TR α} {t : Bool} (h : GoodAt t X l2) (hs : l2 <:+ l) (hl : s = true → t = true ∨ l2.length < l.length) : GoodAt s X l := by
 unfold GoodAt at h ⊢
 match X, h with
 | .ok (a, l3), h => exact ⟨h.1.trans hs, h.2.1, fun e => by
   have h1 := h.1.length_le
   have h2 := hs.length_le
   rcases hl e with h3 | h3
   ·
    have := h.2.2 h3; omega
   ·
    omega⟩
 | .error e, h => exact ⟨by obtain ⟨x, hx, h1⟩ := h.1; exact ⟨x, hs.subset hx, h1⟩, h.2⟩
theorem GoodAt.weak {X : TR α} {t : Bool} (h : GoodAt t X l) (ht : s = true → t = true) : GoodAt s X l := h.sub (List.suffix_refl _) fun e => .inl (ht e)
theorem GoodAt.bnd {X : TR α} {f : α → List Tok → TR β} {t u : Bool} (hl : Tl l) (h : GoodAt t X l) (k : ∀ a l2, l2 <:+ l → Tl l2 → GoodAt u (f a l2) l2) (hs : s = true → t = true ∨ u = true) : GoodAt s (bnd X f) l := by
 match X, h with
 | .ok (a, l3), h =>
  rw [bnd_ok]
  have hk := k a l3 h.1 (hl.suf h.1 h.2.1)
  refine hk.sub h.1 fun e => ?_
  rcases hs e with h1 | h1
  ·
   exact .inr (h.2.2 h1)
  ·
   exact .inl h1
 | .error e, h => rw [bnd_err]; exact h
end
theorem good_want {o : List UInt8} (ho : o ≠ []) : Good true (wantP o) := fun l hl => by
 unfold wantP
 split
 ·
  rename_i h
  exact GoodAt.ok _ hl.nx.1 hl.nx.2.1 fun _ => hl.nx.2.2.2 (fx_kind h ho)
 ·
  exact GoodAt.ref hl (List.suffix_refl _)
theorem good_within {α : Type} {o c : List UInt8} {f : List Tok → TR α} (ho : o ≠ []) (hc : c ≠ []) (hf : Good false f) : Good true (withinP o f c) := fun l hl => by
 unfold withinP
 refine GoodAt.bnd hl (good_want ho l hl) (fun _ l1 _ h1 => ?_) (u := false) (fun _ => .inl rfl)
 refine GoodAt.bnd h1 ((hf _ h1.nls.2.2).sub (s := false) h1.nls.1 (fun e => by cases e)) (fun a l2 _ h2 => ?_) (u := false) (fun e => by cases e)
 refine GoodAt.bnd h2 ((good_want hc _ h2.nls.2.2).sub (s := false) h2.nls.1 (fun e => by cases e)) (fun a l3 _ h3 => ?_) (u := false) (fun e => by cases e)
 exact GoodAt.ok _ (List.suffix_refl _) h3.ne (fun e => by cases e)
theorem good_rowP {f : List Tok → TR PT} (hf : Good true f) : ∀ (n : Nat) (l : List Tok) (ts : List PT), l.length < n → Tl l → GoodAt false (rowP f n l ts) l
 | 0, l, _, h, _ => by omega
 | n + 1, l, ts, h, hl => by
  unfold rowP
  split
  ·
   rename_i hc
   have h1 := hl.nx.2.2.1.nls
   have h2 := hl.nx.2.2.2 (fx_kind hc (by simp))
   have h3 := h1.1.length_le
   refine (GoodAt.bnd (s := false) h1.2.2 (hf _ h1.2.2) (fun t l2 hs ht => ?_) (u := false) (fun e => by cases e)).sub (h1.1.trans hl.nx.1) (fun e => by cases e)
   have h4 := hs.length_le
   exact good_rowP hf n l2 _ (by omega) ht
  ·
   exact GoodAt.ok _ (List.suffix_refl _) hl.ne (fun e => by cases e)
theorem good_row1 {f : List Tok → TR PT} (hf : Good true f) : Good true (row1 f) := fun l hl => by
 unfold row1
 exact GoodAt.bnd hl (hf l hl) (fun t l2 _ h2 => good_rowP hf _ l2 _ (Nat.lt_succ_self _) h2) (fun _ => .inl rfl)
theorem good_args {f : List Tok → TR PT} (hf : Good true f) : Good false (argsP f) := fun l hl => by
 unfold argsP
 split
 ·
  exact GoodAt.ok _ (List.suffix_refl _) hl.ne (fun e => by cases e)
 ·
  exact (good_row1 hf l hl).weak (fun e => by cases e)
theorem good_list {f : List Tok → TR PT} (hf : Good true f) : Good true (listP f) := good_within (by decide) (by decide) (good_args hf)
structure RcG (R : Rc) : Prop where
 E : ∀ pr, Good true (R.E pr)
 U : Good true R.U
 F : Good true R.F
section
variable (reOk : List UInt8 → Bool) {R : Rc} (h : RcG R)
include h
theorem good_elem (op : List UInt8) : Good true (elemP R op) := fun l hl => by
 unfold elemP
 split
 ·
  rename_i hk
  have hlt := hl.nx.2.2.2 (by rw [hk]; decide)
  split
  ·
   refine (GoodAt.bnd (s := true) hl.nx.2.2.1 (good_within (by decide) (by decide) (fun l hl => (h.E false l hl).weak (fun e => by cases e)) _ hl.nx.2.2.1) (fun t l2 _ h2 => ?_) (u := false) (fun _ => .inl rfl)).sub hl.nx.1 (fun _ => .inl rfl)
   exact GoodAt.ok _ (List.suffix_refl _) h2.ne (fun e => by cases e)
  ·
   exact GoodAt.ok _ hl.nx.1 hl.nx.2.1 fun _ => hlt
 ·
  exact GoodAt.ref hl (List.suffix_refl _)
theorem good_builtin (l : List Tok) (hl : Tl l) (hk : (tk l).k ≠ 0) : GoodAt true (builtinP R l) l := by
 unfold builtinP
 have hlt := hl.nx.2.2.2 hk
 split
 ·
  exact GoodAt.ok _ hl.nx.1 hl.nx.2.1 fun _ => hlt
 ·
  have hg := good_list (h.E false) _ hl.nx.2.2.1
  cases hx : listP (R.E false) (nx l) with
  | error e =>
   rw [hx] at hg
   rw [bnd_err]
   exact hg.sub (α := PT) (X := .error e) (s := true) hl.nx.1 (fun _ => .inl rfl)
  | ok x =>
   obtain ⟨ts, l2⟩ := x
   rw [hx] at hg
   rw [bnd_ok]
   split
   ·
    exact GoodAt.ok _ (hg.1.trans hl.nx.1) hg.2.1 fun _ => by have := hg.2.2 rfl; omega
   ·
    exact ⟨⟨tk l, hl.tk_mem, rfl⟩, by simp only; split <;> simp⟩
theorem good_prim : Good true (primP reOk R) := fun l hl => by
 unfold primP
 have hlt := hl.nx.2.2.2
 split
 ·
  rename_i hk; exact GoodAt.ok _ hl.nx.1 hl.nx.2.1 fun _ => hlt (by rw [hk]; decide)
 ·
  split
  ·
   rename_i hk; exact GoodAt.ok _ hl.nx.1 hl.nx.2.1 fun _ => hlt (by rw [hk]; decide)
  ·
   split
   ·
    rename_i hk
    split
    ·
     exact GoodAt.ok _ hl.nx.1 hl.nx.2.1 fun _ => hlt (by rw [hk]; decide)
    ·
     exact GoodAt.ref hl (List.suffix_refl _)
   ·
    split
    ·
     exact good_elem h _ l hl
    ·
     split
     ·
      rename_i hk
      refine (GoodAt.bnd (s := true) hl.nx.2.2.1 (good_list (h.E false) _ hl.nx.2.2.1) (fun t l2 _ h2 => ?_) (u := false) (fun _ => .inl rfl)).sub hl.nx.1 (fun _ => .inl rfl)
      exact GoodAt.ok _ (List.suffix_refl _) h2.ne (fun e => by cases e)
     ·
      split
      ·
       rename_i hk; exact good_builtin h l hl (by rw [hk]; decide)
      ·
       split
       ·
        exact good_within (by decide) (by decide) (fun l hl => (h.E false l hl).weak (fun e => by cases e)) l hl
       ·
        split
        ·
         exact (h.F _ hl.nx.2.2.1).sub hl.nx.1 (fun _ => .inl rfl)
        ·
         exact GoodAt.ref hl (List.suffix_refl _)
theorem good_pre : Good true (preP reOk R) := fun l hl => by
 unfold preP
 refine (GoodAt.bnd (s := true) hl.nx.2.2.1 (good_prim reOk h _ hl.nx.2.2.1) (fun t l2 _ h2 => ?_) (u := false) (fun _ => .inl rfl)).sub hl.nx.1 (fun _ => .inl rfl)
 split
 ·
  exact GoodAt.ok _ (List.suffix_refl _) h2.ne (fun e => by cases e)
 ·
  exact GoodAt.ref h2 (List.suffix_refl _)
theorem good_post : Good true (postP reOk R) := fun l hl => by
 unfold postP
 split
 ·
  exact good_pre reOk h l hl
 ·
  refine GoodAt.bnd hl (good_prim reOk h l hl) (fun t l2 _ h2 => ?_) (u := false) (fun _ => .inl rfl)
  split
  ·
   split
   ·
    exact GoodAt.ok _ h2.nx.1 h2.nx.2.1 (fun e => by cases e)
   ·
    split
    ·
     exact GoodAt.ok _ h2.nx.1 h2.nx.2.1 (fun e => by cases e)
    ·
     exact GoodAt.ok _ (List.suffix_refl _) h2.ne (fun e => by cases e)
  ·
   exact GoodAt.ok _ (List.suffix_refl _) h2.ne (fun e => by cases e)
theorem good_field : Good true (fieldP reOk R) := fun l hl => by
 unfold fieldP
 split
 ·
  exact GoodAt.bnd hl (good_pre reOk h l hl) (fun t l2 _ h2 => GoodAt.ok _ (List.suffix_refl _) h2.ne (fun e => by cases e)) (u := false) (fun _ => .inl rfl)
 ·
  exact GoodAt.bnd hl (good_prim reOk h l hl) (fun t l2 _ h2 => GoodAt.ok _ (List.suffix_refl _) h2.ne (fun e => by cases e)) (u := false) (fun _ => .inl rfl)
theorem good_unary : Good true (unaryP reOk R) := fun l hl => by
 have hu : ∀ op, GoodAt true (bnd (R.U (nx l)) fun t l2 => .ok (nd op [t], l2)) l := fun op =>
  (GoodAt.bnd (s := true) hl.nx.2.2.1 (h.U _ hl.nx.2.2.1) (fun t l2 _ h2 => GoodAt.ok _ (List.suffix_refl _) h2.ne (fun e => by cases e)) (u := false) (fun _ => .inl rfl)).sub hl.nx.1 (fun _ => .inl rfl)
 unfold unaryP
 split
 ·
  exact hu _
 ·
  split
  ·
   exact hu _
  ·
   split
   ·
    exact hu _
   ·
    exact good_post reOk h l hl
omit h in
theorem good_chainL {part : List Tok → TR PT} (hp : Good true part) {signs : List (List UInt8)} (hs : [] ∉ signs) : ∀ (n : Nat) (l : List Tok) (t : PT), l.length < n → Tl l → GoodAt false (chainL part signs n l t) l
 | 0, l, _, h, _ => by omega
 | n + 1, l, t, h, hl => by
  unfold chainL
  split
  ·
   rename_i hc
   have h2 := hl.nx.2.2.2 (fx_kind rfl (fun e => hs (e ▸ hc)))
   have h1 : ∀ b : Prop, [Decidable b] → (if b then nlsP (nx l) else nx l) <:+ nx l ∧ Tl (if b then nlsP (nx l) else nx l) := fun b _ => by
    split
    ·
     exact ⟨hl.nx.2.2.1.nls.1, hl.nx.2.2.1.nls.2.2⟩
    ·
     exact ⟨List.suffix_refl _, hl.nx.2.2.1⟩
   have h1 := h1 (binO (tk l).t = [111, 114] ∨ binO (tk l).t = [97, 110, 100])
   have h3 := h1.1.length_le
   refine (GoodAt.bnd (s := false) h1.2 (hp _ h1.2) (fun u l2 hs2 ht => ?_) (u := false) (fun e => by cases e)).sub (h1.1.trans hl.nx.1) (fun e => by cases e)
   have h4 := hs2.length_le
   exact good_chainL hp hs n l2 _ (by omega) ht
  ·
   exact GoodAt.ok _ (List.suffix_refl _) hl.ne (fun e => by cases e)
omit h in
theorem good_chain {part : List Tok → TR PT} (hp : Good true part) {signs : List (List UInt8)} (hs : [] ∉ signs) : Good true (chainP part signs) := fun l hl => by
 unfold chainP
 exact GoodAt.bnd hl (hp l hl) (fun t l2 _ h2 => good_chainL hp hs _ l2 _ (Nat.lt_succ_self _) h2) (fun _ => .inl rfl)
theorem good_product : Good true (productP reOk R) := good_chain (good_unary reOk h) (by decide)
theorem good_sum : Good true (sumP reOk R) := good_chain (good_product reOk h) (by decide)
theorem good_sideL : ∀ (n : Nat) (l : List Tok) (t : PT), l.length < n → Tl l → GoodAt false (sideL reOk R n l t) l
 | 0, l, _, h, _ => by omega
 | n + 1, l, t, hn, hl => by
  unfold sideL
  split
  ·
   have hg := good_sum reOk h l hl
   cases hx : sumP reOk R l with
   | error e => rw [hx] at hg; rw [bnd_err]; exact hg
   | ok x =>
    obtain ⟨u, l2⟩ := x
    rw [hx] at hg
    rw [bnd_ok]
    have := hg.2.2 rfl
    exact (good_sideL n l2 _ (by omega) (hl.suf hg.1 hg.2.1)).sub hg.1 (fun e => by cases e)
  ·
   exact GoodAt.ok _ (List.suffix_refl _) hl.ne (fun e => by cases e)
theorem good_side : Good true (sideP reOk R) := fun l hl => by
 unfold sideP
 exact GoodAt.bnd hl (good_sum reOk h l hl) (fun t l2 _ h2 => good_sideL reOk h _ l2 _ (Nat.lt_succ_self _) h2) (fun _ => .inl rfl)
theorem good_rel (pr : Bool) : Good true (relP reOk R pr) := fun l hl => by
 unfold relP
 refine GoodAt.bnd hl (good_side reOk h l hl) (fun t l2 _ h2 => ?_) (u := false) (fun _ => .inl rfl)
 split
 ·
  exact (GoodAt.bnd (s := false) h2.nx.2.2.1 (good_side reOk h _ h2.nx.2.2.1) (fun u l3 _ h3 => GoodAt.ok _ (List.suffix_refl _) h3.ne (fun e => by cases e)) (u := false) (fun e => by cases e)).sub h2.nx.1 (fun e => by cases e)
 ·
  exact GoodAt.ok _ (List.suffix_refl _) h2.ne (fun e => by cases e)
theorem good_match (pr : Bool) : Good true (matchP reOk R pr) := good_chain (good_rel reOk h pr) (by decide)
omit h in
theorem good_inL : ∀ (n : Nat) (l : List Tok) (t : PT), l.length < n → Tl l → GoodAt false (inL n l t) l
 | 0, l, _, h, _ => by omega
 | n + 1, l, t, hn, hl => by
  unfold inL
  split
  ·
   rename_i hc
   have h1 := hl.nx
   have h2 := h1.2.2.2 (fx_kind hc (by simp))
   split
   ·
    rename_i hk
    have h3 := h1.2.2.1.nx
    have h4 := h3.1.length_le
    exact (good_inL n _ _ (by omega) h3.2.2.1).sub (h3.1.trans h1.1) (fun e => by cases e)
   ·
    exact GoodAt.ref h1.2.2.1 h1.1
  ·
   exact GoodAt.ok _ (List.suffix_refl _) hl.ne (fun e => by cases e)
theorem good_in (pr : Bool) : Good true (inP reOk R pr) := fun l hl => by
 unfold inP
 exact GoodAt.bnd hl (good_match reOk h pr l hl) (fun t l2 _ h2 => good_inL _ l2 _ (Nat.lt_succ_self _) h2) (fun _ => .inl rfl)
theorem good_and (pr : Bool) : Good true (andP reOk R pr) := good_chain (good_in reOk h pr) (by decide)
theorem good_or (pr : Bool) : Good true (orP reOk R pr) := good_chain (good_and reOk h pr) (by decide)
theorem good_expr (pr : Bool) : Good true (exprP reOk R pr) := fun l hl => by
 unfold exprP
 refine GoodAt.bnd hl (good_or reOk h pr l hl) (fun t l1 _ h1 => ?_) (u := false) (fun _ => .inl rfl)
 have hn := h1.nx.2.2.1.nls
 split
 ·
  refine (GoodAt.bnd (s := false) hn.2.2 (h.E pr _ hn.2.2) (fun u l2 _ h2 => ?_) (u := false) (fun e => by cases e)).sub (hn.1.trans h1.nx.1) (fun e => by cases e)
  refine (GoodAt.bnd (s := false) h2.nls.2.2 (good_want (by decide) _ h2.nls.2.2) (fun _ l3 _ h3 => ?_) (u := false) (fun e => by cases e)).sub h2.nls.1 (fun e => by cases e)
  exact (GoodAt.bnd (s := false) h3.nls.2.2 (h.E pr _ h3.nls.2.2) (fun _ l4 _ h4 => GoodAt.ok _ (List.suffix_refl _) h4.ne (fun e => by cases e)) (u := false) (fun e => by cases e)).sub h3.nls.1 (fun e => by cases e)
 ·
  split
  ·
   exact (GoodAt.bnd (s := false) hn.2.2 (h.E pr _ hn.2.2) (fun u l2 _ h2 => GoodAt.ok _ (List.suffix_refl _) h2.ne (fun e => by cases e)) (u := false) (fun e => by cases e)).sub (hn.1.trans h1.nx.1) (fun e => by cases e)
  ·
   exact GoodAt.ok _ (List.suffix_refl _) h1.ne (fun e => by cases e)
end
theorem good_rc (reOk : List UInt8 → Bool) : ∀ n, RcG (rcP reOk n)
 | 0 => ⟨fun _ _ hl => GoodAt.deep hl, fun _ hl => GoodAt.deep hl, fun _ hl => GoodAt.deep hl⟩
 | n + 1 => ⟨good_expr reOk (good_rc reOk n), good_unary reOk (good_rc reOk n), good_field reOk (good_rc reOk n)⟩
section
variable (reOk : List UInt8 → Bool) {R : Rc} (h : RcG R)
include h
theorem good_printed : Good false (printedP R) := fun l hl => by
 unfold printedP
 split
 ·
  exact (good_list (h.E false) l hl).weak (fun e => by cases e)
 ·
  split
  ·
   exact GoodAt.ok _ (List.suffix_refl _) hl.ne (fun e => by cases e)
  ·
   exact (good_row1 (h.E true) l hl).weak (fun e => by cases e)
theorem good_target : Good false (targetP R reOk) := fun l hl => by
 have hu : ∀ op, GoodAt false (bnd (sideP reOk R (nx l)) fun t l2 => .ok (nd op [t], l2)) l := fun op =>
  (GoodAt.bnd (s := false) hl.nx.2.2.1 (good_side reOk h _ hl.nx.2.2.1) (fun t l2 _ h2 => GoodAt.ok _ (List.suffix_refl _) h2.ne (fun e => by cases e)) (u := false) (fun e => by cases e)).sub hl.nx.1 (fun e => by cases e)
 unfold targetP
 split
 ·
  exact hu _
 ·
  split
  ·
   exact hu _
  ·
   exact GoodAt.ok _ (List.suffix_refl _) hl.ne (fun e => by cases e)
theorem good_print (op : List UInt8) : Good false (printP R reOk op) := fun l hl => by
 unfold printP
 refine GoodAt.bnd hl (good_printed h l hl) (fun ts l2 _ h2 => ?_) (u := false) (fun e => by cases e)
 refine GoodAt.bnd h2 (good_target reOk h l2 h2) (fun g l3 _ h3 => ?_) (u := false) (fun e => by cases e)
 split
 ·
  exact GoodAt.ref h3 (List.suffix_refl _)
 ·
  exact GoodAt.ok _ (List.suffix_refl _) h3.ne (fun e => by cases e)
theorem good_simple : Good true (simpleP R reOk) := fun l hl => by
 unfold simpleP
 have hn := hl.nx
 split
 ·
  rename_i hk
  exact GoodAt.ok _ hn.1 hn.2.1 fun _ => hn.2.2.2 (by rcases hk with e | e | e <;> exact fx_kind e (by decide))
 ·
  split
  ·
   rename_i hk
   have hlt := hn.2.2.2 (by rcases hk with e | e <;> exact fx_kind e (by decide))
   split
   ·
    exact GoodAt.ok _ hn.1 hn.2.1 fun _ => hlt
   ·
    exact (GoodAt.bnd (s := true) hn.2.2.1 (h.E false _ hn.2.2.1) (fun t l2 _ h2 => GoodAt.ok _ (List.suffix_refl _) h2.ne (fun e => by cases e)) (u := false) (fun _ => .inl rfl)).sub hn.1 (fun _ => .inl rfl)
  ·
   split
   ·
    exact (GoodAt.bnd (s := true) hn.2.2.1 (good_elem h _ _ hn.2.2.1) (fun t l2 _ h2 => GoodAt.ok _ (List.suffix_refl _) h2.ne (fun e => by cases e)) (u := false) (fun _ => .inl rfl)).sub hn.1 (fun _ => .inl rfl)
   ·
    split
    ·
     rename_i hk
     have hlt := hn.2.2.2 (by rcases hk with e | e <;> exact fx_kind e (by decide))
     exact (good_print reOk h _ _ hn.2.2.1).sub hn.1 (fun _ => .inr hlt)
    ·
     exact GoodAt.bnd hl (h.E false _ hl) (fun t l2 _ h2 => GoodAt.ok _ (List.suffix_refl _) h2.ne (fun e => by cases e)) (u := false) (fun _ => .inl rfl)
omit h in
theorem good_unless {s : List UInt8} {f : List Tok → TR PT} {b : Bool} (hf : Good b f) : Good false (unlessP s f) := fun l hl => by
 unfold unlessP
 split
 ·
  exact GoodAt.ok _ (List.suffix_refl _) hl.ne (fun e => by cases e)
 ·
  exact (hf l hl).weak (fun e => by cases e)
theorem good_steps : Good false (stepsP R reOk) := fun l hl => by
 unfold stepsP
 refine GoodAt.bnd hl (good_unless (good_simple reOk h) l hl) (fun a l1 _ h1 => ?_) (u := false) (fun e => by cases e)
 refine GoodAt.bnd h1 (good_want (by decide) _ h1) (fun _ l2 _ h2 => ?_) (u := false) (fun e => by cases e)
 refine (GoodAt.bnd (s := false) h2.nls.2.2 (good_unless (h.E false) _ h2.nls.2.2) (fun b l3 _ h3 => ?_) (u := false) (fun e => by cases e)).sub h2.nls.1 (fun e => by cases e)
 refine GoodAt.bnd h3 (good_want (by decide) _ h3) (fun _ l4 _ h4 => ?_) (u := false) (fun e => by cases e)
 exact (GoodAt.bnd (s := false) h4.nls.2.2 (good_unless (good_simple reOk h) _ h4.nls.2.2) (fun b l5 _ h5 => GoodAt.ok _ (List.suffix_refl _) h5.ne (fun e => by cases e)) (u := false) (fun e => by cases e)).sub h4.nls.1 (fun e => by cases e)
theorem good_forP : Good false (forP R reOk) := fun l hl => by
 unfold forP
 split
 ·
  have h1 := hl.nx
  have h2 := h1.2.2.1.nx
  have h3 := h2.2.2.1.nx
  exact GoodAt.ok _ (h3.1.trans (h2.1.trans h1.1)) h3.2.1 (fun e => by cases e)
 ·
  exact GoodAt.bnd hl (good_steps reOk h l hl) (fun t l2 _ h2 => GoodAt.ok _ (List.suffix_refl _) h2.ne (fun e => by cases e)) (u := false) (fun e => by cases e)
end
section
variable (reOk : List UInt8 → Bool) {R : Rc} (h : RcG R) {S : List Tok → TR PT} (hS : Good true S)
include hS
theorem good_blockL : ∀ (n : Nat) (l : List Tok) (ts : List PT), l.length < n → Tl l → GoodAt false (blockL S n l ts) l
 | 0, l, _, h, _ => by omega
 | n + 1, l, ts, hn, hl => by
  unfold blockL
  have h1 := hl.seps
  split
  ·
   have h2 := h1.2.2.nx
   exact GoodAt.ok _ (h2.1.trans h1.1) h2.2.1 (fun e => by cases e)
  ·
   have hg := hS _ h1.2.2
   cases hx : S (sepsP l) with
   | error e => rw [hx] at hg; rw [bnd_err]; exact hg.sub (X := .error e) (α := PT) h1.1 (fun e => by cases e)
   | ok x =>
    obtain ⟨u, l2⟩ := x
    rw [hx] at hg
    rw [bnd_ok]
    have h2 := hg.2.2 rfl
    have h3 := h1.1.length_le
    exact (good_blockL n l2 _ (by omega) (h1.2.2.suf hg.1 hg.2.1)).sub (hg.1.trans h1.1) (fun e => by cases e)
theorem good_block : Good true (blockP S) := fun l hl => by
 unfold blockP
 exact GoodAt.bnd hl (good_want (by decide) l hl) (fun _ l2 _ h2 => good_blockL hS _ l2 _ (Nat.lt_succ_self _) h2) (fun _ => .inl rfl)
theorem good_body : Good true (bodyP S) := fun _ hl => (hS _ hl.nls.2.2).sub hl.nls.1 (fun _ => .inl rfl)
omit hS in
theorem else_good {l l4 : List Tok} (hl : Tl l) (he : elseP l = some l4) : l4 <:+ l ∧ Tl l4 := by
 unfold elseP at he
 simp only at he
 have h1 := hl.nls
 have h2 : (if fx (nlsP l) = [59] then nx (nlsP l) else nlsP l) <:+ l ∧ Tl (if fx (nlsP l) = [59] then nx (nlsP l) else nlsP l) := by
  split
  ·
   exact ⟨h1.2.2.nx.1.trans h1.1, h1.2.2.nx.2.2.1⟩
  ·
   exact ⟨h1.1, h1.2.2⟩
 generalize (if fx (nlsP l) = [59] then nx (nlsP l) else nlsP l) = l2 at *
 have h3 := h2.2.nls
 split at he
 ·
  cases he
  exact ⟨h3.2.2.nx.1.trans (h3.1.trans h2.1), h3.2.2.nx.2.2.1⟩
 ·
  cases he
include h
theorem good_choice : Good true (choiceP R S) := fun l hl => by
 unfold choiceP
 refine GoodAt.bnd hl (good_within (by decide) (by decide) (fun l hl => (h.E false l hl).weak (fun e => by cases e)) l hl) (fun c l2 _ h2 => ?_) (u := false) (fun _ => .inl rfl)
 refine GoodAt.bnd h2 (good_body hS l2 h2) (fun y l3 _ h3 => ?_) (u := false) (fun e => by cases e)
 split
 ·
  rename_i l4 he
  have h4 := else_good h3 he
  exact (GoodAt.bnd (s := false) h4.2 (good_body hS l4 h4.2) (fun z l5 _ h5 => GoodAt.ok _ (List.suffix_refl _) h5.ne (fun e => by cases e)) (u := false) (fun e => by cases e)).sub h4.1 (fun e => by cases e)
 ·
  exact GoodAt.ok _ (List.suffix_refl _) h3.ne (fun e => by cases e)
theorem good_loop : Good true (loopP R S reOk) := fun l hl => by
 unfold loopP
 refine GoodAt.bnd hl (good_within (by decide) (by decide) (good_forP reOk h) l hl) (fun x l2 _ h2 => ?_) (u := false) (fun _ => .inl rfl)
 exact GoodAt.bnd h2 (good_body hS l2 h2) (fun b l3 _ h3 => GoodAt.ok _ (List.suffix_refl _) h3.ne (fun e => by cases e)) (u := false) (fun e => by cases e)
theorem good_stmt : Good true (stmtP R S reOk) := fun l hl => by
 unfold stmtP
 have hn := hl.nx
 split
 ·
  exact good_block hS l hl
 ·
  split
  ·
   rename_i hk
   exact GoodAt.ok _ hn.1 hn.2.1 fun _ => hn.2.2.2 (fx_kind hk (by decide))
  ·
   split
   ·
    exact (good_choice h hS _ hn.2.2.1).sub hn.1 (fun _ => .inl rfl)
   ·
    split
    ·
     refine (GoodAt.bnd (s := true) hn.2.2.1 (good_within (by decide) (by decide) (fun l hl => (h.E false l hl).weak (fun e => by cases e)) _ hn.2.2.1) (fun c l2 _ h2 => ?_) (u := false) (fun _ => .inl rfl)).sub hn.1 (fun _ => .inl rfl)
     exact GoodAt.bnd h2 (good_body hS l2 h2) (fun b l3 _ h3 => GoodAt.ok _ (List.suffix_refl _) h3.ne (fun e => by cases e)) (u := false) (fun e => by cases e)
    ·
     split
     ·
      exact (good_loop reOk h hS _ hn.2.2.1).sub hn.1 (fun _ => .inl rfl)
     ·
      refine GoodAt.bnd hl (good_simple reOk h l hl) (fun t l2 _ h2 => ?_) (u := false) (fun _ => .inl rfl)
      split
      ·
       exact GoodAt.ok _ h2.nx.1 h2.nx.2.1 (fun e => by cases e)
      ·
       split
       ·
        exact GoodAt.ok _ (List.suffix_refl _) h2.ne (fun e => by cases e)
       ·
        exact GoodAt.ref h2 (List.suffix_refl _)
end
theorem good_st (reOk : List UInt8 → Bool) : ∀ n, Good true (stP reOk n)
 | 0 => fun _ hl => GoodAt.deep hl
 | n + 1 => good_stmt reOk (good_rc reOk n) (good_st reOk n)
section
variable (reOk : List UInt8 → Bool)
theorem good_param : Good true paramP := fun l hl => by
 unfold paramP
 split
 ·
  rename_i hk; exact GoodAt.ok _ hl.nx.1 hl.nx.2.1 fun _ => hl.nx.2.2.2 (by rw [hk]; decide)
 ·
  exact GoodAt.ref hl (List.suffix_refl _)
theorem good_func : Good true (funcP reOk) := fun l hl => by
 unfold funcP
 split
 ·
  refine (GoodAt.bnd (s := true) hl.nx.2.2.1 (good_within (by decide) (by decide) (good_args good_param) _ hl.nx.2.2.1) (fun ks l2 _ h2 => ?_) (u := false) (fun _ => .inl rfl)).sub hl.nx.1 (fun _ => .inl rfl)
  exact (GoodAt.bnd (s := false) h2.nls.2.2 (good_block (good_st reOk 50) _ h2.nls.2.2) (fun b l3 _ h3 => GoodAt.ok _ (List.suffix_refl _) h3.ne (fun e => by cases e)) (u := false) (fun e => by cases e)).sub h2.nls.1 (fun e => by cases e)
 ·
  exact GoodAt.ref hl (List.suffix_refl _)
theorem good_item : Good true (itemP reOk) := fun l hl => by
 have hn := hl.nx
 have hb : ∀ (f : PT → PT) (l2 : List Tok), Tl l2 → GoodAt true (bnd (blockP (stP reOk 50) l2) fun b l3 => .ok (f b, l3)) l2 := fun f l2 h2 =>
  GoodAt.bnd h2 (good_block (good_st reOk 50) _ h2) (fun b l3 _ h3 => GoodAt.ok _ (List.suffix_refl _) h3.ne (fun e => by cases e)) (u := false) (fun _ => .inl rfl)
 unfold itemP
 split
 ·
  exact (hb _ _ hn.2.2.1).sub hn.1 (fun _ => .inl rfl)
 ·
  split
  ·
   exact (hb _ _ hn.2.2.1).sub hn.1 (fun _ => .inl rfl)
  ·
   split
   ·
    exact (good_func reOk _ hn.2.2.1).sub hn.1 (fun _ => .inl rfl)
   ·
    split
    ·
     exact hb _ _ hl
    ·
     refine GoodAt.bnd hl ((good_rc reOk 50).E false l hl) (fun e l2 _ h2 => ?_) (u := false) (fun _ => .inl rfl)
     split
     ·
      exact (hb _ _ h2).weak (fun e => by cases e)
     ·
      split
      ·
       exact GoodAt.ok _ (List.suffix_refl _) h2.ne (fun e => by cases e)
      ·
       exact GoodAt.ref h2 (List.suffix_refl _)
theorem good_itemsL : ∀ (n : Nat) (l : List Tok) (ts : List PT), l.length < n → Tl l → GoodAt false (itemsL reOk n l ts) l
 | 0, l, _, h, _ => by omega
 | n + 1, l, ts, hn, hl => by
  unfold itemsL
  have h1 := hl.seps
  split
  ·
   exact GoodAt.ok _ h1.1 h1.2.1 (fun e => by cases e)
  ·
   have hg := good_item reOk _ h1.2.2
   cases hx : itemP reOk (sepsP l) with
   | error e => rw [hx] at hg; rw [bnd_err]; exact hg.sub (X := .error e) (α := PT) h1.1 (fun e => by cases e)
   | ok x =>
    obtain ⟨u, l2⟩ := x
    rw [hx] at hg
    rw [bnd_ok]
    have h2 := hg.2.2 rfl
    have h3 := h1.1.length_le
    exact (good_itemsL n l2 _ (by omega) (h1.2.2.suf hg.1 hg.2.1)).sub (hg.1.trans h1.1) (fun e => by cases e)
theorem good_prog : Good false (progP reOk) := fun l hl => good_itemsL reOk _ l _ (Nat.lt_succ_self _) hl
end
/-- What a call that reads tokens leaves: of what the document reads, or behind its error: nothing but the end is left, and the first error is kept. -/
structure Res {α : Type} (X : TR α) (l : List Tok) (er : Option (Nat × Nat)) (a : α) (l2 : List Tok) (er2 : Option (Nat × Nat)) : Prop where
 suf : l2 <:+ l
 ne : l2 ≠ []
 alt : (X = .ok (a, l2) ∧ er2 = er) ∨ ∃ e, X = .error e ∧ er2 = some (er.getD e) ∧ l2.length = 1
theorem Res.bnd {α β : Type} {X : TR α} {f : α → List Tok → TR β} {l l1 l2 : List Tok} {er er1 er2 : Option (Nat × Nat)} {a : α} {c : β} (h : Res X l er a l1 er1) (k : Res (f a l1) l1 er1 c l2 er2) : Res (bnd X f) l er c l2 er2 := by
 refine ⟨k.suf.trans h.suf, k.ne, ?_⟩
 rcases h.alt with ⟨h1, rfl⟩ | ⟨e, h1, rfl, h3⟩
 ·
  rw [h1, bnd_ok]
  exact k.alt
 ·
  rw [h1, bnd_err]
  refine .inr ⟨e, rfl, ?_, ?_⟩
  ·
   rcases k.alt with ⟨_, h4⟩ | ⟨e2, _, h4, _⟩
   ·
    exact h4
   ·
    rw [h4]; rfl
  ·
   have h4 := k.suf.length_le
   have h5 := List.length_pos_iff.2 k.ne
   omega
theorem Res.pre {α : Type} {X : TR α} {l l1 l2 : List Tok} {er er2 : Option (Nat × Nat)} {a : α} (h : Res X l1 er a l2 er2) (hs : l1 <:+ l) : Res X l er a l2 er2 := ⟨h.suf.trans hs, h.ne, h.alt⟩
theorem Res.ret {α : Type} {l : List Tok} {er : Option (Nat × Nat)} {a : α} (hn : l ≠ []) : Res (.ok (a, l)) l er a l er := ⟨List.suffix_refl _, hn, .inl ⟨rfl, rfl⟩⟩
theorem Res.ret' {α : Type} {l l2 : List Tok} {er : Option (Nat × Nat)} {a : α} (hs : l2 <:+ l) (hn : l2 ≠ []) : Res (.ok (a, l2)) l er a l2 er := ⟨hs, hn, .inl ⟨rfl, rfl⟩⟩
end Go.Proofs.YtmbfdkiejneheaaGreatDoor
